package tests

import (
	"math"
	"slices"
	"strconv"
	"strings"
	"testing"

	"loop.example/g00752/impl"
)

// noMarks are numbers that are no marks, near the limits and far from them.
var noMarks = []int64{math.MinInt64, -16, -1, impl.MaxMark + 1, 17, 31, 256, math.MaxInt64}

// marksOf is n marks, in which all marks come.
func marksOf(n int) []int64 {
	l := make([]int64, n)
	for i := range l {
		l[i] = int64((i*5 + i/16) % (impl.MaxMark + 1))
	}
	return l
}

// manyLab is a right Lab of n bytes, in which all marks come, and all bytes do, if there are enough.
func manyLab(n int) impl.Lab {
	return impl.Lab{Text: manyBytes(n), Marks: marksOf(n)}
}

// otherLab is a right Lab of n bytes that begins with other bytes and marks than manyLab does.
func otherLab(n int) impl.Lab {
	return impl.Lab{Text: manyBytes(n + 50)[50:], Marks: marksOf(n + 7)[7:]}
}

// wrongLabs are Labs that are not right, by what is wrong with them.
func wrongLabs() map[string]impl.Lab {
	l := map[string]impl.Lab{
		"a byte without a mark":              {Text: "a"},
		"a mark without a byte":              {Marks: []int64{0}},
		"one mark less than bytes":           {Text: "abc", Marks: []int64{1, 2}},
		"one mark more than bytes":           {Text: "abc", Marks: []int64{1, 2, 3, 4}},
		"one byte too many":                  manyLab(impl.MaxLab + 1),
		"one byte too many for its marks":    {Text: manyBytes(impl.MaxLab + 1), Marks: marksOf(impl.MaxLab)},
		"one mark too many for its bytes":    {Text: manyBytes(impl.MaxLab), Marks: marksOf(impl.MaxLab + 1)},
		"more bytes and marks than any text": manyLab(impl.MaxBytes + 1),
		"more bytes than a text may have":    {Text: manyBytes(impl.MaxBytes + 1)},
		"more marks than a list may have":    {Marks: marksOf(impl.MaxList + 1)},
		"marks as many as runes, not bytes":  {Text: "ä", Marks: []int64{0}},
		"a wrong mark behind all right ones": {Text: manyBytes(impl.MaxLab), Marks: append(marksOf(impl.MaxLab-1), 16)},
	}
	for _, mark := range noMarks {
		l["the first mark "+strconv.FormatInt(mark, 10)] = impl.Lab{Text: "abc", Marks: []int64{mark, 0, 1}}
		l["the last mark "+strconv.FormatInt(mark, 10)] = impl.Lab{Text: "abc", Marks: []int64{0, 1, mark}}
	}
	return l
}

// alike tells whether two Labs are alike, without asking the program; no marks and none are the same.
func alike(a impl.Lab, b impl.Lab) bool {
	return a.Text == b.Text && slices.Equal(a.Marks, b.Marks)
}

// wantLab checks that a call told a Lab, and no fault.
func wantLab(t *testing.T, what string, got impl.LabOut, want impl.Lab) {
	t.Helper()
	if got.Code != impl.OK || !alike(got.Lab, want) {
		t.Errorf("%s: code %d, %q %v, want %q %v", what, got.Code, got.Lab.Text, got.Lab.Marks, want.Text, want.Marks)
	}
}

// wantFault checks that a call told a code, and beside it nothing.
func wantFault(t *testing.T, what string, got impl.LabOut, code int64) {
	t.Helper()
	if got.Code != code || got.Lab.Text != "" || len(got.Lab.Marks) != 0 {
		t.Errorf("%s: code %d, %d bytes, %d marks, want code %d and else nothing", what, got.Code, len(got.Lab.Text), len(got.Lab.Marks), code)
	}
}

func TestConstantsOfChapterThree(t *testing.T) {
	if impl.MaxLab != 200 || impl.MaxMark != 15 {
		t.Error("a limit is not the document's")
	}
}

func TestLabRight(t *testing.T) {
	for _, n := range []int{0, 1, 2, 16, 100, impl.MaxLab - 1, impl.MaxLab} {
		if !impl.LabRight(manyLab(n)) {
			t.Errorf("%d bytes and as many marks are right", n)
		}
	}
	if !impl.LabRight(impl.Lab{Marks: []int64{}}) || !impl.LabRight(impl.Lab{Text: "ä", Marks: []int64{0, 15}}) {
		t.Error("an empty list of marks, and a mark for each byte, are right")
	}
	for mark := int64(-40); mark <= 40; mark++ {
		if got := impl.LabRight(impl.Lab{Text: "a", Marks: []int64{mark}}); got != (mark >= 0 && mark <= 15) {
			t.Errorf("mark %d: %v", mark, got)
		}
	}
	for what, a := range wrongLabs() {
		if impl.LabRight(a) {
			t.Errorf("%q is not right", what)
		}
	}
}

func TestLabOf(t *testing.T) {
	for mark := int64(0); mark <= impl.MaxMark; mark++ {
		for _, n := range []int{0, 1, 2, impl.MaxLab - 1, impl.MaxLab} {
			text := manyBytes(n)
			wantLab(t, "LabOf", impl.LabOf(text, mark), impl.Lab{Text: text, Marks: slices.Repeat([]int64{mark}, n)})
		}
	}
	for b := range 256 {
		text := string([]byte{byte(b), byte(255 - b)})
		wantLab(t, "LabOf of a byte", impl.LabOf(text, 3), impl.Lab{Text: text, Marks: []int64{3, 3}})
	}
}

func TestLabOfFaults(t *testing.T) {
	for _, mark := range append(noMarks, 0, 1, impl.MaxMark) {
		wantFault(t, "one byte too many", impl.LabOf(manyBytes(impl.MaxLab+1), mark), impl.ErrForm)
		wantFault(t, "the most bytes of a text", impl.LabOf(manyBytes(impl.MaxBytes), mark), impl.ErrForm)
		wantFault(t, "more bytes than a text may have", impl.LabOf(manyBytes(impl.MaxBytes+1), mark), impl.ErrSize)
	}
	for _, mark := range noMarks {
		for _, text := range []string{"", "a", manyBytes(impl.MaxLab)} {
			wantFault(t, "no mark", impl.LabOf(text, mark), impl.ErrForm)
		}
	}
}

func TestLabJoin(t *testing.T) {
	a := impl.Lab{Text: "ab", Marks: []int64{1, 0}}
	b := impl.Lab{Text: "c*\x00", Marks: []int64{15, 8, 2}}
	wantLab(t, "b behind a", impl.LabJoin(a, b), impl.Lab{Text: "abc*\x00", Marks: []int64{1, 0, 15, 8, 2}})
	wantLab(t, "a behind b", impl.LabJoin(b, a), impl.Lab{Text: "c*\x00ab", Marks: []int64{15, 8, 2, 1, 0}})
	wantLab(t, "a behind a", impl.LabJoin(a, a), impl.Lab{Text: "abab", Marks: []int64{1, 0, 1, 0}})
	wantLab(t, "nothing behind a", impl.LabJoin(a, impl.Lab{}), a)
	wantLab(t, "a behind nothing", impl.LabJoin(impl.Lab{}, a), a)
	wantLab(t, "nothing behind nothing", impl.LabJoin(impl.Lab{}, impl.Lab{}), impl.Lab{})
}

func TestLabJoinFaults(t *testing.T) {
	for n := range impl.MaxLab + 1 {
		a, b := manyLab(n), otherLab(impl.MaxLab-n)
		want := impl.Lab{Text: a.Text + b.Text, Marks: slices.Concat(a.Marks, b.Marks)}
		wantLab(t, "together the most bytes", impl.LabJoin(a, b), want)
		if n > 0 {
			wantFault(t, "together one byte too many", impl.LabJoin(a, otherLab(impl.MaxLab-n+1)), impl.ErrFull)
		}
	}
	wantFault(t, "both the longest", impl.LabJoin(manyLab(impl.MaxLab), otherLab(impl.MaxLab)), impl.ErrFull)
	for what, wrong := range wrongLabs() {
		for _, n := range []int{0, 1, impl.MaxLab} {
			wantFault(t, "ahead: "+what, impl.LabJoin(wrong, manyLab(n)), impl.ErrForm)
			wantFault(t, "behind: "+what, impl.LabJoin(manyLab(n), wrong), impl.ErrForm)
		}
		wantFault(t, "both: "+what, impl.LabJoin(wrong, wrong), impl.ErrForm)
	}
}

func TestLabCut(t *testing.T) {
	for _, n := range []int{0, 1, 2, 5, 31, impl.MaxLab} {
		a := manyLab(n)
		for from := 0; from <= n; from++ {
			for to := from; to <= n; to++ {
				want := impl.Lab{Text: a.Text[from:to], Marks: a.Marks[from:to]}
				wantLab(t, "LabCut", impl.LabCut(a, int64(from), int64(to)), want)
			}
		}
	}
}

func TestLabCutFaults(t *testing.T) {
	a := manyLab(5)
	for from := int64(-3); from <= 8; from++ {
		for to := int64(-3); to <= 8; to++ {
			if from < 0 || to > 5 || from > to {
				wantFault(t, "a cut outside, or from above to", impl.LabCut(a, from, to), impl.ErrRange)
			}
		}
	}
	long, least, most := manyLab(impl.MaxLab), int64(math.MinInt64), int64(math.MaxInt64)
	for _, c := range [][2]int64{
		{least, 0}, {0, most}, {least, most}, {most, most}, {least, least}, {most, least}, {-1, -1}, {-1, 0},
		{impl.MaxLab, impl.MaxLab + 1}, {impl.MaxLab + 1, impl.MaxLab + 1}, {0, impl.MaxLab + 1}, {impl.MaxLab, impl.MaxLab - 1},
		{0, 1 << 32}, {-(1 << 32), 0}, {1 << 32, 1 << 32},
	} {
		wantFault(t, "a cut of the longest", impl.LabCut(long, c[0], c[1]), impl.ErrRange)
	}
	wantFault(t, "behind the end of nothing", impl.LabCut(impl.Lab{}, 0, 1), impl.ErrRange)
	for what, wrong := range wrongLabs() {
		for _, c := range [][2]int64{{0, 0}, {0, 1}, {-1, 0}, {1, 0}, {0, most}} {
			wantFault(t, what, impl.LabCut(wrong, c[0], c[1]), impl.ErrForm)
		}
	}
}

// Promise 3: what is joined is cut apart again.
func TestJoinedIsCutApart(t *testing.T) {
	for n := 0; n <= impl.MaxLab; n += 7 {
		for _, m := range []int{0, 1, 2, 9, impl.MaxLab - n} {
			a, b := manyLab(n), otherLab(m)
			if n+m > impl.MaxLab {
				continue
			}
			both := impl.LabJoin(a, b).Lab
			if !impl.LabRight(both) {
				t.Errorf("%d bytes joined with %d are not right", n, m)
			}
			wantLab(t, "the first one", impl.LabCut(both, 0, int64(n)), a)
			wantLab(t, "the second one", impl.LabCut(both, int64(n), int64(n+m)), b)
			wantLab(t, "both", impl.LabCut(both, 0, int64(n+m)), both)
		}
	}
}

// Promise 3, the other way round: what is cut apart anywhere is joined again.
func TestCutApartIsJoined(t *testing.T) {
	a := manyLab(impl.MaxLab)
	for at := int64(0); at <= impl.MaxLab; at++ {
		first, second := impl.LabCut(a, 0, at).Lab, impl.LabCut(a, at, impl.MaxLab).Lab
		wantLab(t, "joined again", impl.LabJoin(first, second), a)
	}
}

// Promise 3: redacted it is as long, and shows just what has no mark.
func TestRedactShowsWhatHasNoMark(t *testing.T) {
	for n := range impl.MaxLab + 1 {
		for _, a := range []impl.Lab{manyLab(n), otherLab(n), impl.LabJoin(manyLab(n/2), otherLab(n-n/2)).Lab} {
			got := impl.Redact(a)
			if len(got) != n {
				t.Fatalf("%d bytes redacted are %d", n, len(got))
			}
			for i := range n {
				want := a.Text[i]
				if a.Marks[i] != 0 {
					want = '*'
				}
				if got[i] != want {
					t.Errorf("byte %d of %d, %x of mark %d, is shown as %x", i, n, a.Text[i], a.Marks[i], got[i])
				}
			}
		}
	}
}

func TestRedactByteByByte(t *testing.T) {
	for b := range 256 {
		for mark := int64(0); mark <= impl.MaxMark; mark++ {
			text := string([]byte{byte(b)})
			want := text
			if mark != 0 {
				want = "*"
			}
			if got := impl.Redact(impl.Lab{Text: text, Marks: []int64{mark}}); got != want {
				t.Errorf("byte %x of mark %d is shown as %x", b, mark, got)
			}
		}
	}
	if got := impl.Redact(impl.Lab{Text: "a*b\\c", Marks: []int64{0, 0, 8, 0, 15}}); got != "a**\\*" {
		t.Errorf("Redact: %q", got)
	}
	for what, wrong := range wrongLabs() {
		if got := impl.Redact(wrong); got != "" {
			t.Errorf("%q redacted: %q", what, got)
		}
	}
}

func TestMarkOf(t *testing.T) {
	for _, c := range []struct {
		marks []int64
		want  int64
	}{
		{nil, 0}, {[]int64{0}, 0}, {[]int64{0, 0, 0}, 0}, {[]int64{4}, 4}, {[]int64{1, 1}, 1}, {[]int64{0, 8, 0}, 8},
		{[]int64{1, 2}, 3}, {[]int64{3, 6}, 7}, {[]int64{5, 6, 0}, 7}, {[]int64{1, 2, 4, 8}, 15}, {[]int64{8, 1}, 9}, {[]int64{15, 1}, 15},
	} {
		if got := impl.MarkOf(impl.Lab{Text: manyBytes(len(c.marks)), Marks: c.marks}); got != c.want {
			t.Errorf("MarkOf of %v: %d, want %d", c.marks, got, c.want)
		}
	}
	for mark := int64(0); mark <= impl.MaxMark; mark++ {
		for _, place := range []int{0, 77, impl.MaxLab - 1} {
			a := impl.Lab{Text: manyBytes(impl.MaxLab), Marks: make([]int64, impl.MaxLab)}
			a.Marks[place] = mark
			if got := impl.MarkOf(a); got != mark {
				t.Errorf("MarkOf of one byte of mark %d at %d: %d", mark, place, got)
			}
		}
		for other := int64(0); other <= impl.MaxMark; other++ {
			if got := impl.MarkOf(impl.Lab{Text: "ab", Marks: []int64{mark, other}}); got != mark|other {
				t.Errorf("MarkOf of %d and %d: %d", mark, other, got)
			}
		}
	}
	for what, wrong := range wrongLabs() {
		if got := impl.MarkOf(wrong); got != 0 {
			t.Errorf("MarkOf, %q: %d", what, got)
		}
	}
}

// Each of these differs from all others, and is alike to itself, be it right or not.
func TestLabSame(t *testing.T) {
	l := []impl.Lab{
		{}, {Text: "a"}, {Marks: []int64{0}}, {Text: "a", Marks: []int64{0}}, {Text: "b", Marks: []int64{0}},
		{Text: "a", Marks: []int64{1}}, {Text: "ab", Marks: []int64{1, 2}}, {Text: "ab", Marks: []int64{2, 1}}, {Text: "ab", Marks: []int64{1, 3}},
		{Text: "ba", Marks: []int64{1, 2}}, {Text: "ab", Marks: []int64{1}}, {Text: "ab", Marks: []int64{1, 2, 0}}, {Text: "abc", Marks: []int64{1, 2}},
		{Text: "a", Marks: []int64{16}}, {Text: "a", Marks: []int64{-1}}, {Text: "a\x00", Marks: []int64{1, 0}},
		manyLab(impl.MaxLab), otherLab(impl.MaxLab), manyLab(impl.MaxLab - 1), manyLab(impl.MaxLab + 1), manyLab(impl.MaxBytes + 1),
	}
	for i, a := range l {
		for j, b := range l {
			other := impl.Lab{Text: strings.Clone(b.Text), Marks: slices.Clone(b.Marks)}
			if got := impl.LabSame(a, other); got != (i == j) {
				t.Errorf("LabSame of %d and %d: %v", i, j, got)
			}
		}
	}
	if !impl.LabSame(impl.Lab{}, impl.Lab{Marks: []int64{}}) || !impl.LabSame(impl.Lab{Marks: []int64{}}, impl.Lab{}) {
		t.Error("an empty list and none are the same")
	}
	for _, place := range []int{0, 99, impl.MaxLab - 1} {
		a := manyLab(impl.MaxLab)
		b := manyLab(impl.MaxLab)
		b.Marks[place] ^= 4
		c := turned(a, place)
		if impl.LabSame(a, b) || impl.LabSame(b, a) || impl.LabSame(a, c) || impl.LabSame(c, a) {
			t.Errorf("another byte or mark at %d is not the same", place)
		}
	}
}

// turned is a Lab with another byte at one place.
func turned(a impl.Lab, place int) impl.Lab {
	b := []byte(a.Text)
	b[place] ^= 1
	return impl.Lab{Text: string(b), Marks: slices.Clone(a.Marks)}
}

func TestSameBut(t *testing.T) {
	all := []int64{math.MinInt64, -16, -2, -1, 16, 17, 1 << 32, math.MaxInt64}
	for marks := int64(0); marks <= impl.MaxMark; marks++ {
		all = append(all, marks)
	}
	for _, marks := range all {
		for _, n := range []int{0, 1, 40, impl.MaxLab} {
			a := manyLab(n)
			if !impl.SameBut(a, manyLab(n), marks) {
				t.Errorf("%d bytes and just these, but %d", n, marks)
			}
		}
		for mark := int64(0); mark <= impl.MaxMark; mark++ {
			a := impl.Lab{Text: "abc", Marks: []int64{0, mark, 0}}
			b := turned(a, 1)
			want := mark&marks != 0
			if impl.SameBut(a, b, marks) != want || impl.SameBut(b, a, marks) != want {
				t.Errorf("another byte of mark %d, but %d: want %v", mark, marks, want)
			}
			if impl.SameBut(a, turned(b, 0), marks) || impl.SameBut(a, turned(b, 2), marks) {
				t.Errorf("another byte without a mark, but %d", marks)
			}
		}
	}
}

func TestSameButWhereTheyDiffer(t *testing.T) {
	a := manyLab(impl.MaxLab)
	for place := range impl.MaxLab {
		b := turned(a, place)
		for _, marks := range []int64{0, 1, 6, 8, 15} {
			if got := impl.SameBut(a, b, marks); got != (a.Marks[place]&marks != 0) {
				t.Errorf("another byte at %d of mark %d, but %d: %v", place, a.Marks[place], marks, got)
			}
		}
		c := manyLab(impl.MaxLab)
		c.Marks[place] ^= 1
		if impl.SameBut(a, c, 15) || impl.SameBut(c, a, 15) || impl.SameBut(a, c, 0) || impl.SameBut(c, turned(a, place), 15) {
			t.Errorf("another mark at %d", place)
		}
	}
	for _, n := range []int{0, 1, 5, impl.MaxLab - 1} {
		short, long := impl.LabOf(manyBytes(n), 1).Lab, impl.LabOf(manyBytes(n+1), 1).Lab
		if impl.SameBut(short, long, 15) || impl.SameBut(long, short, 15) {
			t.Errorf("%d bytes and one more are not of one length", n)
		}
	}
	for _, n := range []int{1, 5, impl.MaxLab} {
		right := manyLab(n)
		for _, text := range []string{right.Text[:n-1], right.Text + "x"} {
			wrong := impl.Lab{Text: text, Marks: right.Marks}
			if impl.SameBut(wrong, right, 15) || impl.SameBut(right, wrong, 15) {
				t.Errorf("the same %d marks, but of %d bytes", n, len(text))
			}
		}
	}
	for what, wrong := range wrongLabs() {
		right := impl.LabOf(manyBytes(min(len(wrong.Text), impl.MaxLab)), 1).Lab
		for _, marks := range []int64{-1, 0, 15} {
			if impl.SameBut(wrong, wrong, marks) || impl.SameBut(wrong, right, marks) || impl.SameBut(right, wrong, marks) {
				t.Errorf("not both are right, but %d: %q", marks, what)
			}
		}
	}
}

// What is handed in is not changed, nor what stands behind it in the same memory.
func TestLabsHandedInStayAsTheyAre(t *testing.T) {
	memory := marksOf(60)
	a := impl.Lab{Text: manyBytes(20), Marks: memory[:20]}
	b := impl.Lab{Text: manyBytes(40)[20:], Marks: memory[20:40]}
	for range 2 {
		impl.LabRight(a)
		impl.LabJoin(a, b)
		impl.LabJoin(b, a)
		impl.LabJoin(a, a)
		impl.LabCut(a, 3, 9)
		impl.LabCut(b, 0, 20)
		impl.Redact(a)
		impl.MarkOf(a)
		impl.LabSame(a, b)
		impl.SameBut(a, b, 3)
	}
	if !slices.Equal(memory, marksOf(60)) {
		t.Error("the memory of what was handed in has changed")
	}
	if len(a.Marks) != 20 || len(b.Marks) != 20 || a.Text != manyBytes(20) || b.Text != manyBytes(40)[20:] {
		t.Error("what was handed in has changed")
	}
}

// spoil writes over all memory of a list, behind its end, too.
func spoil(l []int64) {
	l = l[:cap(l)]
	for i := range l {
		l[i] = -7
	}
}

// An answer shares no memory with what was handed in, nor with another answer.
func TestLabAnswersAreNew(t *testing.T) {
	a, b, none := manyLab(20), otherLab(30), impl.Lab{}
	calls := []func() impl.LabOut{
		func() impl.LabOut { return impl.LabOf(a.Text, 5) },
		func() impl.LabOut { return impl.LabJoin(a, b) },
		func() impl.LabOut { return impl.LabJoin(a, none) },
		func() impl.LabOut { return impl.LabJoin(none, a) },
		func() impl.LabOut { return impl.LabCut(a, 0, 20) },
		func() impl.LabOut { return impl.LabCut(a, 2, 9) },
	}
	var first, copies []impl.Lab
	for _, call := range calls {
		got := call().Lab
		first = append(first, got)
		copies = append(copies, impl.Lab{Text: strings.Clone(got.Text), Marks: slices.Clone(got.Marks)})
		if shares(got.Text, a.Text) || shares(got.Text, b.Text) || shares(impl.Redact(a), a.Text) {
			t.Error("an answer's text shares memory with one that was handed in")
		}
	}
	for i, call := range calls {
		again := call().Lab
		if shares(again.Text, first[i].Text) {
			t.Error("two answers' texts share memory")
		}
		spoil(again.Marks)
		for j := range first {
			if !alike(first[j], copies[j]) {
				t.Fatalf("answers %d and %d share memory", i, j)
			}
		}
		if !alike(a, manyLab(20)) || !alike(b, otherLab(30)) {
			t.Fatalf("answer %d shares memory with what was handed in", i)
		}
		wantLab(t, "once more", call(), copies[i])
	}
	for i := range first {
		spoil(first[i].Marks)
		for j := i + 1; j < len(first); j++ {
			if !alike(first[j], copies[j]) {
				t.Fatalf("answers %d and %d share memory", i, j)
			}
		}
	}
}
