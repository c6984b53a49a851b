package tests

import (
	"bytes"
	"math"
	"math/rand"
	"slices"
	"strconv"
	"strings"
	"testing"
	"unsafe"

	"loop.example/g00752/impl"
)

// someSeat is a right seat, of which no field is zero but Echo.
func someSeat() impl.Seat {
	return impl.Seat{Over: true, In: "pass word: ", Asked: 5, Out: manyLab(50)}
}

// fullSeat is a right seat with as much as it may have.
func fullSeat() impl.Seat {
	return impl.Seat{Echo: true, Over: true, In: manyBytes(impl.MaxIn), Asked: impl.MaxMark, Out: manyLab(impl.MaxLab)}
}

// seatCopy is a seat of its own memory.
func seatCopy(s impl.Seat) impl.Seat {
	s.In, s.Out.Text, s.Out.Marks = strings.Clone(s.In), strings.Clone(s.Out.Text), slices.Clone(s.Out.Marks)
	return s
}

// seatBut is a seat with something else done to it.
func seatBut(s impl.Seat, do func(s *impl.Seat)) impl.Seat {
	s = seatCopy(s)
	do(&s)
	return s
}

// seatsAlike tells whether two seats are alike; no marks and none are the same.
func seatsAlike(a impl.Seat, b impl.Seat) bool {
	return a.Echo == b.Echo && a.Over == b.Over && a.In == b.In && a.Asked == b.Asked && alike(a.Out, b.Out)
}

// wantSeat checks that a call told a seat, and no fault.
func wantSeat(t *testing.T, what string, got impl.SeatOut, want impl.Seat) {
	t.Helper()
	if got.Code != impl.OK || got.Denied != 0 || !seatsAlike(got.Seat, want) {
		t.Errorf("%s: %+v, want %+v", what, got, want)
	}
}

// wantNoSeat checks that a call told a code, and beside it nothing.
func wantNoSeat(t *testing.T, what string, got impl.SeatOut, code int64) {
	t.Helper()
	if got.Code != code || got.Denied != 0 || !seatsAlike(got.Seat, impl.Seat{}) {
		t.Errorf("%s: code %d, denied %d, want code %d and else nothing", what, got.Code, got.Denied, code)
	}
}

// wantDenied checks that a call told of which secret it was denied, and beside it nothing.
func wantDenied(t *testing.T, what string, got impl.SeatOut, place int64) {
	t.Helper()
	if got.Code != impl.ErrDenied || got.Denied != place || !seatsAlike(got.Seat, impl.Seat{}) {
		t.Errorf("%s: code %d, denied %d, want it denied of %d and else nothing", what, got.Code, got.Denied, place)
	}
}

// wrongSeats are seats that are not right, by what is wrong with them.
func wrongSeats() map[string]impl.Seat {
	l := map[string]impl.Seat{}
	for what, s := range map[string]impl.Seat{"some": someSeat(), "full": fullSeat(), "new": {Echo: true}, "zero": {}} {
		for _, n := range []int{impl.MaxIn + 1, impl.MaxIn + 2, 256, 376, impl.MaxBytes, impl.MaxBytes + 1, 1<<16 + 1} {
			l[what+", In of "+strconv.Itoa(n)] = seatBut(s, func(s *impl.Seat) { s.In = manyBytes(n) })
		}
		for _, mark := range noMarks {
			l[what+", Asked "+strconv.FormatInt(mark, 10)] = seatBut(s, func(s *impl.Seat) { s.Asked = mark })
		}
		for why, out := range wrongLabs() {
			l[what+", Out of "+why] = seatBut(s, func(s *impl.Seat) { s.Out = out })
		}
	}
	return l
}

// endsWith tells, without asking the program, whether a text ends with what a right glob means.
func endsWith(in string, prompt string) bool {
	return endsOf(prompt, in, 0, len(in))[len(in)]
}

// marksAsked are, told without asking the program, the marks of the secrets whose prompt In ends with at a seat.
func marksAsked(in string, n int64, v []impl.Secret) int64 {
	var marks int64
	for i, s := range v {
		if s.Seat == n && endsWith(in, s.Prompt) {
			marks += []int64{1, 2, 4, 8}[i]
		}
	}
	return marks
}

// deniedAt is, told without asking the program, the place of the first secret that may not be said, or -1.
func deniedAt(s impl.Seat, n int64, v []impl.Secret, a impl.Lab) int64 {
	for place := range 4 {
		if !slices.ContainsFunc(a.Marks, func(mark int64) bool { return mark>>place%2 == 1 }) {
			continue
		}
		if s.Echo || place >= len(v) || v[place].Seat != n || s.Asked>>place%2 == 0 {
			return int64(place)
		}
	}
	return -1
}

func TestConstantsOfChapterSix(t *testing.T) {
	if impl.MaxIn != 120 {
		t.Error("a limit is not the document's")
	}
}

func TestSeatRight(t *testing.T) {
	for n := range 260 {
		for _, s := range []impl.Seat{{}, {Echo: true}, {Over: true, Asked: 15}, {Out: manyLab(200)}, {Echo: true, Over: true, Asked: 1, Out: manyLab(1)}} {
			s.In = manyBytes(n)
			if got := impl.SeatRight(s); got != (n <= 120) {
				t.Errorf("In of %d bytes: %v", n, got)
			}
		}
	}
	for mark := int64(-40); mark <= 40; mark++ {
		for _, s := range []impl.Seat{someSeat(), fullSeat(), {}} {
			s.Asked = mark
			if got := impl.SeatRight(s); got != (mark >= 0 && mark <= 15) {
				t.Errorf("Asked %d: %v", mark, got)
			}
		}
	}
	for n := range 210 {
		for _, s := range []impl.Seat{someSeat(), fullSeat(), {}} {
			s.Out = manyLab(n)
			if got := impl.SeatRight(s); got != (n <= 200) {
				t.Errorf("Out of %d bytes: %v", n, got)
			}
		}
	}
	for _, s := range []impl.Seat{{}, {Out: impl.Lab{Marks: []int64{}}}, {In: "\x00\xff\n"}, someSeat(), fullSeat()} {
		if !impl.SeatRight(s) {
			t.Errorf("%+v is right", s)
		}
	}
	for what, wrong := range wrongSeats() {
		if impl.SeatRight(wrong) {
			t.Errorf("not right: %s", what)
		}
	}
}

func TestSeatNew(t *testing.T) {
	if got := impl.SeatNew(); !seatsAlike(got, impl.Seat{Echo: true}) || !impl.SeatRight(got) {
		t.Errorf("a new seat: %+v", got)
	}
}

func TestHear(t *testing.T) {
	v := fourSecrets() // ann at 1 `word: `, anna at 2 `*`, bob at 0 `*:`, twelveletter at 1 `\*?` and 37 times p
	long := "*x" + strings.Repeat("p", 37)
	for _, c := range []struct {
		in    string
		asked int64
		n     int64
		text  string
		want  int64
	}{
		{"", 0, 1, "word: ", 1},
		{"", 0, 1, "pass word: ", 1},
		{"pass wo", 0, 1, "rd: ", 1},
		{"pass word:", 0, 1, " ", 1},
		{"word: ", 0, 1, "", 1},
		{"word: ", 0, 1, "x", 0},
		{"word: ", 1, 1, "x", 1},
		{"word: ", 0, 1, " ", 0},
		{"", 0, 1, "word:", 0},
		{"", 0, 1, "Word: ", 0},
		{"", 0, 1, "ord: ", 0},
		{"", 0, 1, "word: hush", 0},
		{"", 0, 1, "word: word: ", 1},
		{"", 0, 0, "word: ", 0},
		{"", 0, 2, "word: ", 2},
		{"", 0, 2, "", 2},
		{"", 0, 0, "", 0},
		{"", 0, 1, "", 0},
		{"", 0, 0, ":", 4},
		{"a", 0, 0, "b:", 4},
		{":", 0, 0, "b", 0},
		{"", 0, 1, ":", 0},
		{"", 0, 1, long, 8},
		{long, 0, 1, "p", 0},
		{long[:38], 0, 1, "p", 8},
		{long[:1], 0, 1, long[1:], 8},
		{"", 0, 1, "a" + long[1:], 0},
		{"", 0, 1, long + " word: ", 1},
		{"", 8, 1, "word: ", 9},
		{"", 2, 1, "word: ", 3},
		{"", 15, 1, "x", 15},
		{"", 15, 1, "word: ", 15},
		{"", 4, 2, "x", 6},
		{"", 10, 0, "x:", 14},
	} {
		for i := range 4 {
			s := impl.Seat{Echo: i%2 == 1, Over: i/2 == 1, In: c.in, Asked: c.asked, Out: manyLab(i)}
			want := seatCopy(s)
			want.In, want.Asked = c.in+c.text, c.want
			wantSeat(t, strconv.Quote(c.text)+" behind "+strconv.Quote(c.in)+" at "+strconv.FormatInt(c.n, 10), impl.Hear(s, c.n, v, c.text), want)
			// with no vault no one asks for anything
			want.Asked = c.asked
			wantSeat(t, strconv.Quote(c.text)+" without a vault", impl.Hear(s, c.n, nil, c.text), want)
		}
	}
}

// Two who ask with the same prompt, or with prompts that one text ends with, ask for all of it at once.
func TestHearAsksForMoreThanOne(t *testing.T) {
	v := []impl.Secret{{Name: "a", Word: "a", Prompt: ": "}, {Name: "b", Word: "b", Prompt: "*"}, {Name: "c", Seat: 1, Word: "c", Prompt: "?"}, {Name: "d", Word: "d", Prompt: "d: "}}
	for in, want := range map[string]int64{"": 2, " ": 2, ": ": 3, "d: ": 11, "dd: ": 11, "d: d": 2, "c: ": 3} {
		for asked := range int64(16) {
			s := impl.Seat{Asked: asked}
			wantSeat(t, in, impl.Hear(s, 0, v, in), impl.Seat{In: in, Asked: asked | want})
		}
	}
	for place := range 4 {
		all := make([]impl.Secret, 4)
		for i := range all {
			all[i] = impl.Secret{Name: alphabet[i : i+1], Seat: 2, Word: "w", Prompt: "x"}
		}
		wantSeat(t, "all ask", impl.Hear(impl.Seat{}, 2, all, "x"), impl.Seat{In: "x", Asked: 15})
		all[place].Seat = int64(place) % 2
		wantSeat(t, "all but one ask", impl.Hear(impl.Seat{}, 2, all, "x"), impl.Seat{In: "x", Asked: 15 - 1<<place})
		all[place].Seat, all[place].Prompt = 2, "y"
		wantSeat(t, "all but one ask", impl.Hear(impl.Seat{}, 2, all, "x"), impl.Seat{In: "x", Asked: 15 - 1<<place})
		wantSeat(t, "one asks", impl.Hear(impl.Seat{}, 2, all, "y"), impl.Seat{In: "y", Asked: 1 << place})
		wantSeat(t, "some of them are there", impl.Hear(impl.Seat{}, 2, all[:place], "x"), impl.Seat{In: "x", Asked: 1<<place - 1})
	}
}

// What is not used up yet counts too: what was eaten can not be asked with.
func TestHearLooksAtWhatIsThere(t *testing.T) {
	v := fourSecrets()
	first := impl.Hear(impl.Seat{}, 1, v, "word").Seat
	for to := range int64(5) {
		eaten := impl.Eat(first, to).Seat
		want := impl.Seat{In: "word"[to:] + ": "}
		if to == 0 {
			want.Asked = 1
		}
		wantSeat(t, "behind "+strconv.FormatInt(to, 10)+" that were used up", impl.Hear(eaten, 1, v, ": "), want)
	}
}

func TestHearUpToMaxIn(t *testing.T) {
	v := []impl.Secret{{Name: "a", Word: "a", Prompt: "zz"}}
	for n := range impl.MaxIn + 1 {
		s := impl.Seat{In: manyBytes(n), Asked: 2, Out: manyLab(3)}
		for _, more := range []int{0, 1, 119 - n, 120 - n, 121 - n, 122 - n, 119, 120, 121, 256, 256 - n, 1 << 9, impl.MaxBytes} {
			if more < 0 {
				continue
			}
			text := strings.Repeat("a", more)
			if n+more > 120 {
				wantNoSeat(t, strconv.Itoa(more)+" behind "+strconv.Itoa(n), impl.Hear(s, 0, v, text), impl.ErrFull)
				continue
			}
			want := seatCopy(s)
			want.In += text
			wantSeat(t, strconv.Itoa(more)+" behind "+strconv.Itoa(n), impl.Hear(s, 0, v, text), want)
		}
	}
}

func TestHearFaults(t *testing.T) {
	v, tooMany := fourSecrets(), manySecrets(impl.MaxList+1)
	most, large := strings.Repeat("a", impl.MaxBytes), strings.Repeat("a", impl.MaxBytes+1)
	for what, wrong := range wrongSeats() {
		for _, text := range []string{"", "word: ", manyBytes(121), most} {
			wantNoSeat(t, what, impl.Hear(wrong, 1, v, text), impl.ErrForm)
			wantNoSeat(t, what, impl.Hear(wrong, -1, nil, text), impl.ErrForm)
		}
		wantNoSeat(t, what, impl.Hear(wrong, 1, v, large), impl.ErrSize)
		wantNoSeat(t, what, impl.Hear(wrong, 1, tooMany, ""), impl.ErrSize)
	}
	for _, s := range []impl.Seat{{}, impl.SeatNew(), someSeat(), fullSeat()} {
		for _, n := range noSeats {
			what := "at " + strconv.FormatInt(n, 10)
			for _, text := range []string{"", "word: ", manyBytes(121), most} {
				wantNoSeat(t, what, impl.Hear(s, n, v, text), impl.ErrForm)
				wantNoSeat(t, what, impl.Hear(s, n, nil, text), impl.ErrForm)
			}
			wantNoSeat(t, what, impl.Hear(s, n, v, large), impl.ErrSize)
			wantNoSeat(t, what, impl.Hear(s, n, tooMany, ""), impl.ErrSize)
		}
		for what, wrong := range wrongVaults() {
			code := int64(impl.ErrForm)
			if len(wrong) > impl.MaxList {
				code = impl.ErrSize
			}
			for _, text := range []string{"", "word: ", most} {
				wantNoSeat(t, what, impl.Hear(s, 1, wrong, text), code)
				wantNoSeat(t, what, impl.Hear(s, 3, wrong, text), code)
			}
			wantNoSeat(t, what, impl.Hear(s, 1, wrong, large), impl.ErrSize)
		}
	}
	wantNoSeat(t, "nothing is right", impl.Hear(wrongSeats()["some, Asked -1"], 7, wrongVaults()["five secrets"], most), impl.ErrForm)
	wantNoSeat(t, "no more fits in", impl.Hear(fullSeat(), 1, v, "x"), impl.ErrFull)
	wantSeat(t, "no more is said", impl.Hear(fullSeat(), 1, v, ""), fullSeat())
}

func TestTurn(t *testing.T) {
	for _, s := range []impl.Seat{{}, impl.SeatNew(), someSeat(), fullSeat(), {In: "x"}, {Asked: 15}, {Out: manyLab(1)}} {
		for _, was := range []bool{false, true} {
			for _, echo := range []bool{false, true} {
				s.Echo = was
				want := seatCopy(s)
				want.Echo = echo
				if got := impl.Turn(s, echo); !seatsAlike(got, want) {
					t.Errorf("%+v turned to %v: %+v", s, echo, got)
				}
			}
		}
	}
	for what, wrong := range wrongSeats() {
		for _, was := range []bool{false, true} {
			for _, echo := range []bool{false, true} {
				wrong.Echo = was
				if got := impl.Turn(wrong, echo); !seatsAlike(got, wrong) {
					t.Errorf("what is not right, %s, is turned to %v", what, echo)
				}
			}
		}
	}
}

func TestEat(t *testing.T) {
	for n := range impl.MaxIn + 1 {
		for _, s := range []impl.Seat{{Asked: 3}, {Echo: true, Over: true, Asked: 15, Out: manyLab(9)}} {
			s.In = manyBytes(n)
			for to := range n + 1 {
				want := seatCopy(s)
				want.In = manyBytes(n)[to:]
				wantSeat(t, "up to "+strconv.Itoa(to)+" of "+strconv.Itoa(n), impl.Eat(s, int64(to)), want)
			}
			for _, to := range []int64{math.MinInt64, -(1 << 32), -2, -1, int64(n) + 1, int64(n) + 2, 256, 256 + int64(n), 1 << 32, 1<<32 + int64(n), math.MaxInt64} {
				wantNoSeat(t, "up to "+strconv.FormatInt(to, 10)+" of "+strconv.Itoa(n), impl.Eat(s, to), impl.ErrRange)
			}
		}
	}
	for what, wrong := range wrongSeats() {
		for _, to := range []int64{math.MinInt64, -1, 0, 1, int64(len(wrong.In)), int64(len(wrong.In)) + 1, math.MaxInt64} {
			wantNoSeat(t, what, impl.Eat(wrong, to), impl.ErrForm)
		}
	}
}

// What was asked for stays asked for when what it was asked with is used up.
func TestEatKeepsWhatIsAsked(t *testing.T) {
	v := fourSecrets()
	s := impl.Eat(impl.Hear(impl.Seat{}, 1, v, "word: ").Seat, 6).Seat
	a := impl.LabOf("hush", 1).Lab
	wantSeat(t, "used up, and asked for", impl.Say(s, 1, v, a), impl.Seat{Out: a})
	wantSeat(t, "more is heard", impl.Hear(s, 1, v, "please"), impl.Seat{In: "please", Asked: 1})
}

func TestSay(t *testing.T) {
	v := fourSecrets()
	s := impl.Seat{Over: true, In: "word: ", Asked: 15, Out: impl.Lab{Text: "a*", Marks: []int64{0, 8}}}
	want := impl.Seat{Over: true, In: "word: ", Out: impl.Lab{Text: "a*hush!", Marks: []int64{0, 8, 1, 1, 1, 1, 0}}}
	wantSeat(t, "a word", impl.Say(s, 1, v, impl.Lab{Text: "hush!", Marks: []int64{1, 1, 1, 1, 0}}), want)
	want.Out = impl.Lab{Text: "a*xy", Marks: []int64{0, 8, 9, 1}}
	wantSeat(t, "what has the marks of two", impl.Say(s, 1, v, impl.Lab{Text: "xy", Marks: []int64{9, 1}}), want)
	want.Out = s.Out
	wantSeat(t, "nothing", impl.Say(s, 1, v, impl.Lab{}), want)
	// no other word than that of the secret is looked for: the marks tell, not the letters
	want.Out = impl.Lab{Text: "a*zed", Marks: []int64{0, 8, 0, 0, 0}}
	wantSeat(t, "a word without marks", impl.Say(s, 1, v, impl.LabOf("zed", 0).Lab), want)
	s.Echo, want.Echo = true, true
	wantSeat(t, "no marks, with echo", impl.Say(s, 1, v, impl.LabOf("zed", 0).Lab), want)
	wantSeat(t, "no marks, nothing asked for, with echo", impl.Say(impl.SeatNew(), 0, nil, impl.LabOf("x", 0).Lab), impl.Seat{Echo: true, Out: impl.LabOf("x", 0).Lab})
}

// Each ground alone, with the place of the first such secret.
func TestSayDenied(t *testing.T) {
	v := fourSecrets() // at the seats 1, 2, 0 and 1
	asked := impl.Seat{Asked: 15}
	mixed := impl.Lab{Text: "abcd", Marks: []int64{0, 8, 4, 0}}
	wantDenied(t, "none there", impl.Say(asked, 1, nil, impl.LabOf("x", 1).Lab), 0)
	wantDenied(t, "none there", impl.Say(asked, 1, v[:3], impl.LabOf("x", 8).Lab), 3)
	wantDenied(t, "none there", impl.Say(asked, 1, v[:1], impl.LabOf("x", 15).Lab), 1)
	wantDenied(t, "none of two there", impl.Say(asked, 1, v[:2], mixed), 2)
	wantDenied(t, "of another seat", impl.Say(asked, 0, v, impl.LabOf("x", 1).Lab), 0)
	wantDenied(t, "of another seat", impl.Say(asked, 2, v, impl.LabOf("x", 1).Lab), 0)
	wantDenied(t, "of another seat", impl.Say(asked, 1, v, impl.LabOf("x", 2).Lab), 1)
	wantDenied(t, "of another seat, behind one that is for it", impl.Say(asked, 1, v, impl.LabOf("x", 15).Lab), 1)
	wantDenied(t, "of another seat, ahead of one that is for it", impl.Say(asked, 1, v, mixed), 2)
	wantDenied(t, "not asked for", impl.Say(impl.Seat{Asked: 14}, 1, v, impl.LabOf("x", 1).Lab), 0)
	wantDenied(t, "not asked for", impl.Say(impl.Seat{Asked: 7}, 1, v, impl.LabOf("x", 9).Lab), 3)
	wantDenied(t, "not asked for", impl.Say(impl.Seat{Asked: 8}, 1, v, impl.LabOf("x", 9).Lab), 0)
	echo := impl.Seat{Echo: true, Asked: 15}
	wantDenied(t, "with echo", impl.Say(echo, 1, v, impl.LabOf("x", 1).Lab), 0)
	wantDenied(t, "with echo", impl.Say(echo, 1, v, impl.LabOf("x", 8).Lab), 3)
	wantDenied(t, "with echo, two", impl.Say(echo, 1, v, impl.Lab{Text: "ab", Marks: []int64{8, 1}}), 0)
	wantDenied(t, "with echo, and of another seat", impl.Say(echo, 1, v, impl.LabOf("x", 3).Lab), 0)
	wantDenied(t, "with echo, and none there", impl.Say(echo, 1, nil, impl.LabOf("x", 4).Lab), 2)
	for place := range impl.MaxLab {
		a := impl.LabOf(manyBytes(impl.MaxLab), 0).Lab
		a.Marks[place] = 2
		wantDenied(t, "a mark at "+strconv.Itoa(place), impl.Say(asked, 1, v, a), 1)
	}
}

// All marks, of all that was asked for, at each seat, by vaults of each size.
func TestSayByMarks(t *testing.T) {
	for asked := range int64(16) {
		for mark := range int64(16) {
			for n := range int64(impl.MaxSeats) {
				for size := range impl.MaxSecrets + 1 {
					for _, echo := range []bool{false, true} {
						s := impl.Seat{Echo: echo, Asked: asked}
						a, v := impl.LabOf("x", mark).Lab, fourSecrets()[:size]
						got := impl.Say(s, n, v, a)
						what := "the marks " + strconv.FormatInt(mark, 10) + " of " + strconv.FormatInt(asked, 10) + " asked for"
						if place := deniedAt(s, n, v, a); place >= 0 {
							wantDenied(t, what, got, place)
						} else {
							wantSeat(t, what, got, impl.Seat{Echo: echo, Out: a})
						}
					}
				}
			}
		}
	}
}

func TestSayUpToMaxLab(t *testing.T) {
	v := fourSecrets()
	for n := range impl.MaxLab + 1 {
		s := impl.Seat{Asked: 1, Out: manyLab(n)}
		for _, more := range []int{0, 1, 199 - n, 200 - n, 201 - n, 200} {
			if more < 0 || more > impl.MaxLab {
				continue
			}
			for _, mark := range []int64{0, 1} {
				a := impl.LabOf(manyBytes(more), mark).Lab
				what := strconv.Itoa(more) + " behind " + strconv.Itoa(n)
				if n+more > 200 {
					wantNoSeat(t, what, impl.Say(s, 1, v, a), impl.ErrFull)
					continue
				}
				wantSeat(t, what, impl.Say(s, 1, v, a), impl.Seat{Out: impl.LabJoin(s.Out, a).Lab})
			}
			if more > 0 {
				wantDenied(t, "what is denied is not what would be too much", impl.Say(s, 1, v, impl.LabOf(manyBytes(more), 2).Lab), 1)
			}
		}
	}
}

func TestSayFaults(t *testing.T) {
	v, tooMany := fourSecrets(), manySecrets(impl.MaxList+1)
	fine, full, denied := impl.LabOf("hush", 1).Lab, manyLab(impl.MaxLab), impl.LabOf("x", 15).Lab
	for what, wrong := range wrongSeats() {
		for _, a := range []impl.Lab{{}, fine, full, denied} {
			wantNoSeat(t, what, impl.Say(wrong, 1, v, a), impl.ErrForm)
			wantNoSeat(t, what, impl.Say(wrong, 3, nil, a), impl.ErrForm)
			wantNoSeat(t, what, impl.Say(wrong, 1, tooMany, a), impl.ErrSize)
		}
	}
	for _, s := range []impl.Seat{{}, {Asked: 15}, impl.SeatNew(), someSeat(), fullSeat()} {
		for _, a := range []impl.Lab{{}, fine, full, denied} {
			for _, n := range noSeats {
				what := "at " + strconv.FormatInt(n, 10)
				wantNoSeat(t, what, impl.Say(s, n, v, a), impl.ErrForm)
				wantNoSeat(t, what, impl.Say(s, n, nil, a), impl.ErrForm)
				wantNoSeat(t, what, impl.Say(s, n, tooMany, a), impl.ErrSize)
			}
			for what, wrong := range wrongVaults() {
				code := int64(impl.ErrForm)
				if len(wrong) > impl.MaxList {
					code = impl.ErrSize
				}
				wantNoSeat(t, what, impl.Say(s, 1, wrong, a), code)
			}
		}
		for what, wrong := range wrongLabs() {
			wantNoSeat(t, what, impl.Say(s, 1, v, wrong), impl.ErrForm)
			wantNoSeat(t, what, impl.Say(s, 1, nil, wrong), impl.ErrForm)
			wantNoSeat(t, what, impl.Say(s, 1, wrongVaults()["five secrets"], wrong), impl.ErrForm)
			wantNoSeat(t, what, impl.Say(s, 1, tooMany, wrong), impl.ErrSize)
		}
	}
}

// Asked lasts till something is said, whatever else goes on, and no longer.
func TestAskedLastsTillSomethingIsSaid(t *testing.T) {
	v := fourSecrets()
	word, other := impl.LabOf("hush", 1).Lab, impl.LabOf("well?", 0).Lab
	asked := impl.Hear(impl.Seat{}, 1, v, "word: ").Seat
	for what, s := range map[string]impl.Seat{
		"at once":           asked,
		"more was heard":    impl.Hear(asked, 1, v, "please").Seat,
		"used up":           impl.Eat(asked, 6).Seat,
		"in part used up":   impl.Eat(asked, 2).Seat,
		"turned and back":   impl.Turn(impl.Turn(asked, true), false),
		"heard with echo":   impl.Turn(impl.Hear(impl.SeatNew(), 1, v, "word: ").Seat, false),
		"over":              seatBut(asked, func(s *impl.Seat) { s.Over = true }),
		"something refused": impl.Hear(impl.Eat(asked, 6).Seat, 1, v, "word: ").Seat,
	} {
		told := impl.Say(s, 1, v, word)
		if told.Code != impl.OK || told.Seat.Asked != 0 || !alike(told.Seat.Out, word) {
			t.Errorf("%s, it may be said: %+v", what, told)
		}
		wantDenied(t, what+", and once more", impl.Say(told.Seat, 1, v, word), 0)
		for _, a := range []impl.Lab{other, {}} {
			after := impl.Say(s, 1, v, a)
			if after.Code != impl.OK || after.Seat.Asked != 0 {
				t.Errorf("%s, something else is said: %+v", what, after)
			}
			wantDenied(t, what+", and behind something else", impl.Say(after.Seat, 1, v, word), 0)
			wantDenied(t, what+", and used up", impl.Say(impl.Eat(after.Seat, 0).Seat, 1, v, word), 0)
			again := impl.Say(impl.Hear(after.Seat, 1, v, " word: ").Seat, 1, v, word)
			if again.Code != impl.OK || !alike(again.Seat.Out, impl.LabJoin(a, word).Lab) {
				t.Errorf("%s, asked for anew: %+v", what, again)
			}
		}
		// what is denied leaves all as it was: nothing was said
		wantDenied(t, what+", but with echo", impl.Say(impl.Turn(s, true), 1, v, word), 0)
		if got := impl.Say(s, 1, v, word); got.Code != impl.OK {
			t.Errorf("%s, still asked for: %+v", what, got)
		}
	}
}

// history is what went on at a seat, told without asking the program.
type history struct {
	seat  impl.Seat
	asked [4]bool // since something was said
	told  int     // how often something marked was said
}

// hear goes on with a text that the one at the seat n says, and that fits in.
func (h *history) hear(n int64, v []impl.Secret, text string) {
	h.seat.In += text
	for place, s := range v {
		if s.Seat == n && endsWith(h.seat.In, s.Prompt) {
			h.asked[place] = true
		}
	}
}

// say goes on with what is said to that one, is not denied, and fits in.
func (h *history) say(a impl.Lab) {
	h.seat.Out = impl.Lab{Text: h.seat.Out.Text + a.Text, Marks: append(slices.Clone(h.seat.Out.Marks), a.Marks...)}
	h.asked = [4]bool{}
}

// now is the seat of a history.
func (h *history) now() impl.Seat {
	s := h.seat
	s.Asked = 0
	for place, asked := range h.asked {
		if asked {
			s.Asked += []int64{1, 2, 4, 8}[place]
		}
	}
	return s
}

// step does the next thing at a seat, and checks it by the history.
func (h *history) step(t *testing.T, r *rand.Rand, s impl.Seat, n int64, v []impl.Secret) impl.Seat {
	t.Helper()
	got := impl.SeatOut{Seat: s}
	switch r.Intn(8) {
	case 0, 1, 2:
		text := globFrom(r, "ab: ", 1+r.Intn(5))
		got = impl.Hear(s, n, v, text)
		if len(h.seat.In)+len(text) > impl.MaxIn {
			wantNoSeat(t, "Hear", got, impl.ErrFull)
			return s
		}
		h.hear(n, v, text)
	case 3:
		to := r.Intn(len(h.seat.In) + 1)
		got = impl.Eat(s, int64(to))
		h.seat.In = h.seat.In[to:]
	case 4:
		h.seat.Echo = r.Intn(4) == 0
		got.Seat = impl.Turn(s, h.seat.Echo)
	default:
		a := impl.Lab{Text: manyBytes(r.Intn(6))}
		one, other := int64(1)<<r.Intn(4), int64(1)<<r.Intn(4)
		for range len(a.Text) {
			a.Marks = append(a.Marks, []int64{0, one, other, one | other}[r.Intn(4)&r.Intn(4)])
		}
		got = impl.Say(s, n, v, a)
		if place := deniedAt(h.now(), n, v, a); place >= 0 {
			wantDenied(t, "Say", got, place)
			return s
		}
		if len(h.seat.Out.Text)+len(a.Text) > impl.MaxLab {
			wantNoSeat(t, "Say", got, impl.ErrFull)
			return s
		}
		h.say(a)
		if slices.Max(append(a.Marks, 0)) > 0 {
			h.told++
		}
	}
	wantSeat(t, "a step", got, h.now())
	if !impl.SeatRight(got.Seat) {
		t.Errorf("a right seat stays right: %+v", got.Seat)
	}
	return got.Seat
}

// Promise 6 over many vaults, and all that may go on at a seat.
func TestWhatIsSaidWasAskedFor(t *testing.T) {
	r := rand.New(rand.NewSource(6))
	told := 0
	for range 1500 {
		v := vaultFrom(r, r.Intn(impl.MaxSecrets+1))
		n := int64(r.Intn(impl.MaxSeats))
		for i := range v {
			v[i].Prompt = globFrom(r, "ab: ?a*", 1+r.Intn(2))
			if r.Intn(2) == 0 {
				v[i].Seat = n
			}
		}
		h := history{seat: impl.Seat{Echo: true}}
		s := impl.SeatNew()
		for range 80 {
			s = h.step(t, r, s, n, v)
		}
		if t.Failed() {
			t.Fatalf("at %d of %+v", n, v)
		}
		told += h.told
	}
	// else the vaults and texts are such that nothing was looked at
	if told < 600 {
		t.Errorf("something marked was said %d times", told)
	}
}

// Promise 6: each word goes to one seat alone, once for each time that it is asked for.
func TestWordsAreSaidWhereTheyAreFor(t *testing.T) {
	r := rand.New(rand.NewSource(66))
	for range 500 {
		v := vaultFrom(r, 1+r.Intn(impl.MaxSecrets))
		for place, secret := range v {
			secret.Prompt = "word of " + secret.Name + ": "
			v[place].Prompt = secret.Prompt
			word := impl.LabOf(secret.Word, 1<<place).Lab
			for n := range int64(impl.MaxSeats) {
				s := impl.Turn(impl.SeatNew(), false)
				wantDenied(t, "not asked for", impl.Say(s, n, v, word), int64(place))
				s = impl.Hear(s, n, v, secret.Prompt).Seat
				if n != secret.Seat {
					wantDenied(t, "asked for by another one", impl.Say(s, n, v, word), int64(place))
					continue
				}
				wantDenied(t, "asked for by one who says it back", impl.Say(impl.Turn(s, true), n, v, word), int64(place))
				said := impl.Say(s, n, v, word)
				if said.Code != impl.OK || !alike(said.Seat.Out, word) {
					t.Errorf("asked for: %+v", said)
				}
				wantDenied(t, "said once", impl.Say(said.Seat, n, v, word), int64(place))
				again := impl.Say(impl.Hear(said.Seat, n, v, secret.Prompt).Seat, n, v, word)
				if again.Code != impl.OK || again.Seat.Out.Text != secret.Word+secret.Word {
					t.Errorf("asked for anew: %+v", again)
				}
			}
		}
	}
}

// What comes of it does not hang on the letters of the words: only on their shape.
func TestSeatsKnowOfNoWord(t *testing.T) {
	r := rand.New(rand.NewSource(67))
	for range 300 {
		v := vaultFrom(r, 1+r.Intn(impl.MaxSecrets))
		s := impl.Seat{Echo: r.Intn(2) == 0, In: manyBytes(r.Intn(80)), Asked: int64(r.Intn(16)), Out: manyLab(r.Intn(150))}
		n, text, a := int64(r.Intn(impl.MaxSeats)), wordFrom(r), manyLab(r.Intn(60))
		heard, said := impl.Hear(s, n, v, text), impl.Say(s, n, v, a)
		wantSeat(t, "heard", heard, seatBut(s, func(s *impl.Seat) { s.In += text; s.Asked |= marksAsked(s.In, n, v) }))
		for turn := range int64(26) {
			twin := impl.Twin(v, turn)
			wantSeat(t, "heard with a twin", impl.Hear(s, n, twin, text), heard.Seat)
			got := impl.Say(s, n, twin, a)
			if got.Code != said.Code || got.Denied != said.Denied || !seatsAlike(got.Seat, said.Seat) {
				t.Errorf("said with a twin: %+v, want %+v", got, said)
			}
		}
	}
}

// What is handed in is not changed, nor what stands behind it in the same memory, and nothing is kept.
func TestSeatsStayAsTheyAre(t *testing.T) {
	marks, vault := marksOf(60), fourSecrets()
	in, out, text := []byte("word: "), []byte(manyBytes(20)), []byte(" word: ")
	s := impl.Seat{Asked: 9, In: unsafe.String(&in[0], len(in)), Out: impl.Lab{Text: unsafe.String(&out[0], len(out)), Marks: marks[:20]}}
	a := impl.Lab{Text: "x", Marks: marks[35:36]}
	wrong := impl.Seat{Asked: 16, In: s.In, Out: s.Out}
	v := vault[:2]
	for range 3 {
		for range 2 {
			heard := impl.Hear(s, 1, v, unsafe.String(&text[0], len(text)))
			wantSeat(t, "a later call", heard, impl.Seat{In: "word:  word: ", Asked: 9, Out: manyLab(20)})
			spoil(heard.Seat.Out.Marks)
		}
		turned := impl.Turn(s, true)
		spoil(turned.Out.Marks)
		spoil(impl.Turn(wrong, true).Out.Marks)
		eaten := impl.Eat(s, 2)
		wantSeat(t, "a later call", eaten, impl.Seat{In: "rd: ", Asked: 9, Out: manyLab(20)})
		spoil(eaten.Seat.Out.Marks)
		said := impl.Say(s, 1, v, a)
		wantSeat(t, "a later call", said, impl.Seat{In: "word: ", Out: impl.LabJoin(manyLab(20), a).Lab})
		spoil(said.Seat.Out.Marks)
		said = impl.Say(s, 1, v, impl.Lab{})
		wantSeat(t, "a later call", said, impl.Seat{In: "word: ", Out: manyLab(20)})
		spoil(said.Seat.Out.Marks)
		wantDenied(t, "a later call", impl.Say(s, 0, v, impl.LabOf("x", 1).Lab), 0)
		spoil(impl.SeatNew().Out.Marks)
		if !impl.SeatRight(s) || impl.SeatRight(wrong) || !seatsAlike(impl.SeatNew(), impl.Seat{Echo: true}) {
			t.Error("a later call answers otherwise")
		}
	}
	if !slices.Equal(marks, marksOf(60)) || !slices.Equal(vault, fourSecrets()) || !bytes.Equal(in, []byte("word: ")) || !bytes.Equal(out, []byte(manyBytes(20))) || !bytes.Equal(text, []byte(" word: ")) {
		t.Error("what was handed in has changed")
	}
	if !seatsAlike(s, impl.Seat{In: "word: ", Asked: 9, Out: manyLab(20)}) {
		t.Errorf("what was handed in has changed: %+v", s)
	}
}

// The seat that is answered shares no memory with one that was handed in, nor with what was said, nor with another answer.
func TestSeatsAreNew(t *testing.T) {
	v := fourSecrets()
	s := impl.Seat{In: "pass word: ", Asked: 9, Out: manyLab(50)}
	wrong := impl.Seat{In: "pass word: ", Asked: 16, Out: manyLab(50)}
	a, text := impl.LabOf("hush hush", 1).Lab, "more of it"
	calls := map[string]func() impl.Seat{
		"Hear":               func() impl.Seat { return impl.Hear(s, 1, v, text).Seat },
		"Hear nothing":       func() impl.Seat { return impl.Hear(s, 1, v, "").Seat },
		"Hear it all":        func() impl.Seat { return impl.Hear(impl.Seat{}, 1, v, text).Seat },
		"Turn":               func() impl.Seat { return impl.Turn(s, true) },
		"Turn to what it is": func() impl.Seat { return impl.Turn(s, false) },
		"Turn what is wrong": func() impl.Seat { return impl.Turn(wrong, true) },
		"Eat nothing":        func() impl.Seat { return impl.Eat(s, 0).Seat },
		"Eat":                func() impl.Seat { return impl.Eat(s, 3).Seat },
		"Eat all":            func() impl.Seat { return impl.Eat(s, 11).Seat },
		"Say":                func() impl.Seat { return impl.Say(s, 1, v, a).Seat },
		"Say nothing":        func() impl.Seat { return impl.Say(s, 1, v, impl.Lab{}).Seat },
		"Say first":          func() impl.Seat { return impl.Say(impl.Seat{Asked: 1}, 1, v, a).Seat },
		"Say what is there":  func() impl.Seat { return impl.Say(impl.Seat{Asked: 1, Out: a}, 1, v, a).Seat },
	}
	for what, call := range calls {
		first, second := call(), call()
		want := seatCopy(first)
		given := []string{s.In, s.Out.Text, wrong.In, wrong.Out.Text, a.Text, text}
		for _, got := range []string{first.In, first.Out.Text} {
			for _, other := range append(given, second.In, second.Out.Text) {
				if len(got) > 1 && shares(got, other) {
					t.Errorf("%s: %q shares memory with %q", what, got, other)
				}
			}
		}
		spoil(second.Out.Marks)
		if !seatsAlike(first, want) || !seatsAlike(call(), want) {
			t.Errorf("%s: two answers share memory", what)
		}
		if !alike(s.Out, manyLab(50)) || !alike(wrong.Out, manyLab(50)) || !alike(a, impl.LabOf("hush hush", 1).Lab) {
			t.Fatalf("%s: an answer shares memory with what was handed in", what)
		}
	}
}

// A text, or a list, that is too large is refused ahead of all else, by each call that takes one.
func TestTooLargeForSeatsIsRefused(t *testing.T) {
	for _, n := range []int{impl.MaxBytes + 1, 2 * impl.MaxBytes, 1 << 20} {
		large := strings.Repeat("a", n)
		wantNoSeat(t, "a text of "+strconv.Itoa(n), impl.Hear(impl.Seat{}, 0, nil, large), impl.ErrSize)
		wantNoSeat(t, "a text of "+strconv.Itoa(n), impl.Hear(impl.Seat{Asked: -1}, -1, manySecrets(5), large), impl.ErrSize)
	}
	for _, n := range []int{impl.MaxList + 1, 2 * impl.MaxList, 17576} {
		large := manySecrets(n)
		wantNoSeat(t, "a list of "+strconv.Itoa(n), impl.Hear(impl.Seat{}, 0, large, ""), impl.ErrSize)
		wantNoSeat(t, "a list of "+strconv.Itoa(n), impl.Hear(impl.Seat{Asked: 16}, 3, large, manyBytes(121)), impl.ErrSize)
		wantNoSeat(t, "a list of "+strconv.Itoa(n), impl.Say(impl.Seat{}, 0, large, impl.Lab{}), impl.ErrSize)
		wantNoSeat(t, "a list of "+strconv.Itoa(n), impl.Say(impl.Seat{Asked: 16}, 3, large, impl.Lab{Text: "a"}), impl.ErrSize)
	}
	// as many as a list may have are no vault, which is another fault
	wantNoSeat(t, "the most of a list", impl.Hear(impl.Seat{}, 0, manySecrets(impl.MaxList), ""), impl.ErrForm)
	wantNoSeat(t, "the most of a list", impl.Say(impl.Seat{}, 0, manySecrets(impl.MaxList), impl.Lab{}), impl.ErrForm)
	wantNoSeat(t, "the most of a text", impl.Hear(impl.Seat{}, 0, nil, strings.Repeat("a", impl.MaxBytes)), impl.ErrFull)
}
