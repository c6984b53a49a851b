package tests

import (
	"fmt"
	"math"
	"math/rand"
	"slices"
	"strconv"
	"strings"
	"sync"
	"testing"
	"unsafe"

	"loop.example/g00752/impl"
)

// noFuels are numbers that are neither a fuel nor a number of steps.
var noFuels = []int64{math.MinInt64, -(1 << 32), -100000, -2, -1, 100001, 100002, 200000, 1 << 32, 1<<32 + 5, math.MaxInt64}

// noRunExits are numbers that are no exit of a run.
var noRunExits = []int64{math.MinInt64, -(1 << 32), -200, -3, -2, 200, 201, 255, 256, 299, 1 << 32, 1<<32 + 7, math.MaxInt64}

// noWaits are numbers that no run has waited.
var noWaits = []int64{math.MinInt64, -(1 << 32), -3, -1, 4, 5, 256, 1 << 32, 1<<32 + 1, math.MaxInt64}

// lab is a text, all of whose bytes have one mark.
func lab(t string, mark int64) impl.Lab {
	l := impl.Lab{Text: t}
	for range len(t) {
		l.Marks = append(l.Marks, mark)
	}
	return l
}

// labs is Labs, one behind the other.
func labs(l ...impl.Lab) impl.Lab {
	var all impl.Lab
	for _, a := range l {
		all.Text += a.Text
		all.Marks = append(all.Marks, a.Marks...)
	}
	return all
}

// labPart is what stands in a Lab from one place on to ahead of another.
func labPart(a impl.Lab, from int, to int) impl.Lab {
	return impl.Lab{Text: a.Text[from:to], Marks: slices.Clone(a.Marks[from:to])}
}

// prog is the program of these lines.
func prog(lines ...string) []impl.Stmt {
	p, right := progIn(strings.Join(append(lines, ""), "\n"))
	if !right {
		panic("no program: " + strings.Join(lines, "; "))
	}
	return p
}

// someVars are right variables.
func someVars() []impl.Var {
	return []impl.Var{
		{Name: "a", Lab: lab("alpha", 0)},
		{Name: "m", Lab: manyLab(20)},
		{Name: "none"},
		{Name: "p", Lab: lab("hush", 1)},
		{Name: "twelveletter", Lab: manyLab(200)},
	}
}

// manyVars are n variables, a right name each, rising.
func manyVars(n int) []impl.Var {
	var l []impl.Var
	for i := range n {
		l = append(l, impl.Var{Name: "v" + string([]byte{'a' + byte(i/26/26%26), 'a' + byte(i/26%26), 'a' + byte(i%26)}), Lab: lab(strconv.Itoa(i), 0)})
	}
	return l
}

// varsCopy is variables of their own memory.
func varsCopy(l []impl.Var) []impl.Var {
	var all []impl.Var
	for _, one := range l {
		all = append(all, impl.Var{Name: strings.Clone(one.Name), Lab: impl.Lab{Text: strings.Clone(one.Lab.Text), Marks: slices.Clone(one.Lab.Marks)}})
	}
	return all
}

// varsBut are the variables, and one of that name that is something else, or new.
func varsBut(l []impl.Var, name string, is impl.Lab) []impl.Var {
	l = slices.DeleteFunc(varsCopy(l), func(one impl.Var) bool { return one.Name == name })
	l = append(l, impl.Var{Name: name, Lab: is})
	slices.SortFunc(l, func(a impl.Var, b impl.Var) int { return strings.Compare(a.Name, b.Name) })
	return l
}

// varsAlike tells whether variables are alike; no marks and none are the same.
func varsAlike(a []impl.Var, b []impl.Var) bool {
	return slices.EqualFunc(a, b, func(a impl.Var, b impl.Var) bool { return a.Name == b.Name && alike(a.Lab, b.Lab) })
}

// wrongVars are variables that are not right, by what is wrong with them.
func wrongVars() map[string][]impl.Var {
	some := someVars()
	l := map[string][]impl.Var{
		"the zero one":         {{}},
		"two alike":            {some[0], some[0]},
		"two of one name":      {some[0], {Name: "a"}},
		"two falling":          {some[1], some[0]},
		"two alike at the end": append(someVars(), some[4]),
		"falling at the end":   append(someVars(), some[0]),
		"longer ahead":         {{Name: "aa"}, {Name: "a"}},
	}
	for _, n := range []int{21, 22, 40, 256, 276, impl.MaxList} {
		l["many: "+strconv.Itoa(n)] = manyVars(n)
	}
	for i, name := range noWords() {
		l["name "+strconv.Itoa(i)] = []impl.Var{{Name: name, Lab: lab("x", 0)}}
		l["last name "+strconv.Itoa(i)] = []impl.Var{{Name: "a"}, {Name: name, Lab: lab("x", 0)}}
	}
	for why, wrong := range wrongLabs() {
		for place := range some {
			l[why+" at "+strconv.Itoa(place)] = varsBut(some, some[place].Name, wrong)
		}
	}
	return l
}

// newRun is a run that has just begun, told without asking the program.
func newRun(fuel int64) impl.Run {
	return impl.Run{Fuel: fuel, Exit: -1, Seats: []impl.Seat{{Echo: true}, {Echo: true}, {Echo: true}}}
}

// someRun is a right run that can go on, and of which no field but At and Waits is zero.
func someRun() impl.Run {
	return impl.Run{
		Fuel: 30, Next: 1, Steps: 12, Exit: -1, Vars: someVars(), Log: "sent ****\n", Trace: "<1 pass word: \n", Said: "so far",
		Seats: []impl.Seat{{Echo: true, In: "to be", Asked: 4, Out: lab("x", 0)}, {In: "pass word: ", Asked: 5, Out: manyLab(50)}, someSeat()},
	}
}

// fullRun is a right run with as much as it may have in a world of n ticks; it has ended.
func fullRun(n int) impl.Run {
	r := impl.Run{
		At: 40, Fuel: 100000, Next: int64(n), Waits: 3, Steps: 100000, Exit: 199, Vars: manyVars(20),
		Seats: []impl.Seat{fullSeat(), fullSeat(), fullSeat()},
		Log:   manyBytes(1500), Trace: manyBytes(1500), Said: manyBytes(40),
	}
	for i := range r.Vars {
		r.Vars[i].Lab = manyLab(200)
	}
	return r
}

// runCopy is a run of its own memory.
func runCopy(r impl.Run) impl.Run {
	r.Vars = varsCopy(r.Vars)
	r.Seats = slices.Clone(r.Seats)
	for i, s := range r.Seats {
		r.Seats[i] = seatCopy(s)
	}
	r.Log, r.Trace, r.Said = strings.Clone(r.Log), strings.Clone(r.Trace), strings.Clone(r.Said)
	return r
}

// runBut is a run with something else done to it.
func runBut(r impl.Run, do func(r *impl.Run)) impl.Run {
	r = runCopy(r)
	do(&r)
	return r
}

// runsAlike tells whether two runs are alike.
func runsAlike(a impl.Run, b impl.Run) bool {
	return a.At == b.At && a.Fuel == b.Fuel && a.Next == b.Next && a.Waits == b.Waits && a.Steps == b.Steps && a.Exit == b.Exit &&
		varsAlike(a.Vars, b.Vars) && slices.EqualFunc(a.Seats, b.Seats, seatsAlike) && a.Log == b.Log && a.Trace == b.Trace && a.Said == b.Said
}

// wantRun checks that a call told a run, and no fault.
func wantRun(t *testing.T, what string, got impl.RunOut, want impl.Run) {
	t.Helper()
	if got.Code != impl.OK || !runsAlike(got.Run, want) {
		t.Errorf("%s:\n got %+v\nwant %+v", what, got, want)
	}
}

// wantNoRun checks that a call told a code, and beside it no run.
func wantNoRun(t *testing.T, what string, got impl.RunOut, code int64) {
	t.Helper()
	if got.Code != code || !runsAlike(got.Run, impl.Run{}) {
		t.Errorf("%s: %+v, want code %d and no run", what, got, code)
	}
}

// wrongPrograms are programs that are not right.
func wrongPrograms() map[string][]impl.Stmt {
	return map[string][]impl.Stmt{
		"zero":      {{}},
		"a far end": {{Kind: impl.StEnd, N: 100}},
		"one wrong": append(prog("log", "log"), impl.Stmt{Kind: impl.StGoto, To: 41}),
		"41":        slices.Repeat(prog("log"), 41),
		"400":       slices.Repeat(prog("log"), impl.MaxList),
		"parts":     {{Kind: impl.StLog, Parts: slices.Repeat([]impl.Part{text("a")}, 7)}},
	}
}

// wrongWorlds are worlds that are not right.
func wrongWorlds() map[string][]impl.Tick {
	return map[string][]impl.Tick{
		"zero":      {{}},
		"a seat":    {show(3)},
		"one wrong": {timeGoes(), says(0, "\n")},
		"61":        slices.Repeat([]impl.Tick{timeGoes()}, 61),
		"400":       slices.Repeat([]impl.Tick{timeGoes()}, impl.MaxList),
	}
}

// wrongRuns are runs that are not right in a world of n ticks, by what is wrong with them.
func wrongRuns(n int) map[string]impl.Run {
	l := map[string]impl.Run{"zero": {}}
	for what, r := range map[string]impl.Run{"new": newRun(5), "full": fullRun(n), "some": someRun()} {
		but := func(why string, do func(r *impl.Run)) { l[what+", "+why] = runBut(r, do) }
		for _, at := range noPlaces {
			but("At "+strconv.FormatInt(at, 10), func(r *impl.Run) { r.At = at })
		}
		for _, fuel := range noFuels {
			but("Fuel "+strconv.FormatInt(fuel, 10), func(r *impl.Run) { r.Fuel = fuel })
			but("Steps "+strconv.FormatInt(fuel, 10), func(r *impl.Run) { r.Steps = fuel })
		}
		for _, next := range []int64{math.MinInt64, -1, int64(n) + 1, int64(n) + 2, int64(n) + 256, 1 << 32, math.MaxInt64} {
			but("Next "+strconv.FormatInt(next, 10), func(r *impl.Run) { r.Next = next })
		}
		for _, waits := range noWaits {
			but("Waits "+strconv.FormatInt(waits, 10), func(r *impl.Run) { r.Waits = waits })
		}
		for _, exit := range noRunExits {
			but("Exit "+strconv.FormatInt(exit, 10), func(r *impl.Run) { r.Exit = exit })
		}
		for why, wrong := range wrongVars() {
			but("Vars "+why, func(r *impl.Run) { r.Vars = wrong })
		}
		for _, seats := range []int{0, 1, 2, 4, 5, 6, 259, impl.MaxList, impl.MaxList + 1} {
			but(strconv.Itoa(seats)+" Seats", func(r *impl.Run) { r.Seats = slices.Repeat([]impl.Seat{someSeat()}, seats) })
		}
		for why, wrong := range wrongSeats() {
			place := len(why) % 3
			but("at "+strconv.Itoa(place)+" "+why, func(r *impl.Run) { r.Seats[place] = wrong })
		}
		for place := range 3 {
			but("a wrong seat at "+strconv.Itoa(place), func(r *impl.Run) { r.Seats[place].Asked = 16 })
		}
		for _, n := range []int{1501, 1502, 1756, 3000, impl.MaxBytes, impl.MaxBytes + 1, 1 << 16} {
			but("Log of "+strconv.Itoa(n), func(r *impl.Run) { r.Log = manyBytes(n) })
			but("Trace of "+strconv.Itoa(n), func(r *impl.Run) { r.Trace = manyBytes(n) })
		}
		for _, n := range []int{41, 42, 256, 296, 1500, impl.MaxBytes + 1} {
			but("Said of "+strconv.Itoa(n), func(r *impl.Run) { r.Said = manyBytes(n) })
		}
	}
	return l
}

// stepped is, told without asking the calls of chapter 9, what a right run that has not ended is after one step more.
func stepped(p []impl.Stmt, v []impl.Secret, w []impl.Tick, r impl.Run) impl.Run {
	r = runCopy(r)
	if r.Fuel == 0 || r.At >= int64(len(p)) {
		r.Exit = 0
		if r.Fuel == 0 {
			r.Exit = 5
		}
		return r
	}
	r.Fuel, r.Steps = r.Fuel-1, r.Steps+1
	s := p[r.At]
	value := valueIn(r.Vars, s.Parts)
	if len(value.Text) > 200 {
		r.Exit = 4
		return r
	}
	switch s.Kind {
	case impl.StSet:
		setIn(&r, s.Name, value)
	case impl.StSecret:
		place := slices.IndexFunc(v, func(one impl.Secret) bool { return one.Name == s.Text })
		if place < 0 {
			r.Exit, r.Said = 6, "no "+s.Text
			break
		}
		setIn(&r, s.Name, lab(v[place].Word, []int64{1, 2, 4, 8}[place]))
	case impl.StSay:
		sayIn(&r, s.N, v, value)
	case impl.StWait:
		waitIn(&r, s, v, w)
	case impl.StLog:
		lineIn(&r, &r.Log, starred(value))
	case impl.StIf:
		is := valueIn(r.Vars, []impl.Part{variable(s.Name)})
		switch {
		case slices.ContainsFunc(is.Marks, func(mark int64) bool { return mark > 0 }):
			r.Exit, r.Said = 3, "denied if"
		case is.Text == s.Text:
			r.At = s.To - 1
		}
	case impl.StGoto:
		r.At = s.To - 1
	case impl.StEnd:
		r.Exit = 100 + s.N
	}
	if r.Exit == -1 {
		r.At++
	}
	return r
}

// starred is a Lab's text with a star for each byte that has a mark.
func starred(a impl.Lab) string {
	shown := []byte(a.Text)
	for i, mark := range a.Marks {
		if mark > 0 {
			shown[i] = '*'
		}
	}
	return string(shown)
}

// valueIn is right parts put together, however long that may be.
func valueIn(l []impl.Var, parts []impl.Part) impl.Lab {
	var bytes []byte
	var marks []int64
	for _, p := range parts {
		is, from, to := lab(p.Text, 0), 0, len(p.Text)
		if p.Kind != impl.PtText {
			is = impl.Lab{}
			for _, one := range l {
				if one.Name == p.Text {
					is = one.Lab
				}
			}
			to = len(is.Text)
		}
		if p.Kind == impl.PtCut {
			from, to = int(p.From), int(p.To)
		}
		for i := range len(is.Text) {
			if i >= from && i < to {
				bytes, marks = append(bytes, is.Text[i]), append(marks, is.Marks[i])
			}
		}
	}
	return impl.Lab{Text: string(bytes), Marks: marks}
}

// setIn makes a variable of a run what it is, or ends the run.
func setIn(r *impl.Run, name string, is impl.Lab) {
	if l := varsBut(r.Vars, name, is); len(l) > 20 {
		r.Exit = 4
	} else {
		r.Vars = l
	}
}

// lineIn puts a line behind a log or a trace of a run, or ends the run.
func lineIn(r *impl.Run, log *string, line string) {
	if len(*log)+len(line)+1 > 1500 {
		r.Exit = 4
	} else {
		*log += line + "\n"
	}
}

// sayIn says something to the one at a seat of a run, or ends the run.
func sayIn(r *impl.Run, n int64, v []impl.Secret, a impl.Lab) {
	s := &r.Seats[n]
	denied := deniedAt(*s, n, v, a)
	switch {
	case denied >= int64(len(v)):
		r.Exit, r.Said = 3, "denied"
	case denied >= 0:
		r.Exit, r.Said = 3, "denied "+v[denied].Name
	case len(s.Out.Text)+len(a.Text) > 200:
		r.Exit = 4
	default:
		s.Out, s.Asked = labs(s.Out, a), 0
		lineIn(r, &r.Trace, fmt.Sprintf(">%d %s", n, starred(a)))
	}
}

// waitIn waits for what the one at a seat of a run says; At is one less than it is to be.
func waitIn(r *impl.Run, st impl.Stmt, v []impl.Secret, w []impl.Tick) {
	s := &r.Seats[st.N]
	for from := range len(s.In) + 1 {
		to := lastOf(endsOf(st.Text, s.In, from, from))
		if to < 0 {
			continue
		}
		found := s.In[from:to]
		if setIn(r, st.Name, lab(found, 0)); r.Exit != -1 {
			return
		}
		s.In, r.Waits = s.In[to:], 0
		lineIn(r, &r.Trace, fmt.Sprintf("<%d %s", st.N, found))
		return
	}
	if s.Over || r.Next == int64(len(w)) || r.Waits == 3 {
		r.At, r.Waits = st.To-1, 0
		return
	}
	tick := w[r.Next]
	r.Next++
	s = &r.Seats[tick.Seat]
	switch tick.Kind {
	case impl.TkSays:
		if len(s.In)+len(tick.Text) > 120 {
			r.Exit = 4
			return
		}
		s.In += tick.Text
		s.Asked |= marksAsked(s.In, tick.Seat, v)
	case impl.TkShow, impl.TkHide:
		s.Echo = tick.Kind == impl.TkShow
	case impl.TkOver:
		s.Over = true
	case impl.TkTime:
		r.Waits++
	}
	r.At--
}

// steppedOn are, told without asking the calls of chapter 9, all that a run is on its way to its end.
func steppedOn(p []impl.Stmt, v []impl.Secret, w []impl.Tick, fuel int64) []impl.Run {
	way := []impl.Run{newRun(fuel)}
	for way[len(way)-1].Exit == -1 {
		way = append(way, stepped(p, v, w, way[len(way)-1]))
	}
	return way
}

// liveVault is a vault of n secrets for which one asks often.
func liveVault(r *rand.Rand, n int) []impl.Secret {
	v := vaultFrom(r, n)
	for i := range v {
		v[i].Prompt = []string{"a", "b:", "?:", "*", "ab", ":"}[r.Intn(6)]
		if r.Intn(3) > 0 {
			v[i].Word = v[i].Word[:1]
		}
	}
	return v
}

// liveWorld is a world of n ticks in which secrets are asked for, and mostly not said back.
func liveWorld(r *rand.Rand, n int) []impl.Tick {
	w := []impl.Tick{hide(0), hide(1), hide(2)}
	for range n {
		seat := int64(r.Intn(3))
		switch r.Intn(24) {
		case 0, 1:
			w = append(w, timeGoes())
		case 2:
			w = append(w, show(seat))
		case 3:
			w = append(w, over(seat))
		case 4, 5, 6:
			w = append(w, hide(seat))
		case 7:
			w = append(w, says(seat, bytesFrom(r, "ab:", r.Intn(61))))
		case 8, 9, 10:
			w = append(w, says(seat, bytesFrom(r, "ab:", r.Intn(6))))
		default:
			w = append(w, says(seat, []string{"a", "ab", "b:", "ab:"}[r.Intn(4)]))
		}
	}
	if r.Intn(4) == 0 {
		return w[len(w)-n:]
	}
	return w[:n]
}

// liveName is the name of a variable that programs have; words are mostly in p.
func liveName(r *rand.Rand) string {
	return []string{"a", "a", "a", "b", "b", "b", "q", "q", "q", "p"}[r.Intn(10)]
}

// liveParts are a few parts that programs have.
func liveParts(r *rand.Rand) []impl.Part {
	var parts []impl.Part
	for range r.Intn(4) {
		name := liveName(r)
		switch r.Intn(8) {
		case 0:
			parts = append(parts, text(bytesFrom(r, "ab: ", r.Intn(31))))
		case 1:
			from := int64(r.Intn(8))
			parts = append(parts, cut(name, from, from+int64(r.Intn(8))))
		case 2:
			parts = append(parts, variable(name), variable(name), variable(name))
		default:
			parts = append(parts, variable(name))
		}
	}
	return parts[:min(6, len(parts))]
}

// liveProg is a program of n statements that have to do with each other, and with the secrets of a vault.
func liveProg(r *rand.Rand, n int, v []impl.Secret) []impl.Stmt {
	var p []impl.Stmt
	for len(p) < n {
		name, seat, to := liveName(r), int64(r.Intn(3)), int64(r.Intn(min(n+3, 41)))
		secret := impl.Secret{Name: "none", Seat: seat, Prompt: "a"}
		if len(v) > 0 && r.Intn(60) > 0 {
			secret = v[r.Intn(len(v))]
		}
		switch r.Intn(20) {
		case 0, 1, 2:
			p = append(p, impl.Stmt{Kind: impl.StSet, Name: name, Parts: liveParts(r)})
		case 3:
			p = append(p, impl.Stmt{Kind: impl.StSecret, Name: name, Text: secret.Name})
		case 4, 5:
			p = append(p, impl.Stmt{Kind: impl.StSay, N: seat, Parts: liveParts(r)})
		case 6, 7:
			p = append(p, impl.Stmt{Kind: impl.StWait, N: seat, Name: name, To: to, Text: []string{"*", "?", "a", "b:", "a*b", ":*", "ab"}[r.Intn(7)]})
		case 8:
			p = append(p, impl.Stmt{Kind: impl.StLog, Parts: liveParts(r)})
		case 9:
			p = append(p, impl.Stmt{Kind: impl.StIf, Name: name, To: to, Text: []string{"", "a", "ab", ":", "b"}[r.Intn(5)]})
		case 10:
			p = append(p, impl.Stmt{Kind: impl.StGoto, To: to})
		case 11:
			if r.Intn(4) == 0 {
				p = append(p, impl.Stmt{Kind: impl.StEnd, N: int64(r.Intn(100))})
			}
		default:
			// what a script is there for: a word, when it is asked for
			p = append(p, impl.Stmt{Kind: impl.StSecret, Name: "p", Text: secret.Name},
				impl.Stmt{Kind: impl.StWait, N: secret.Seat, Name: "q", To: to, Text: secret.Prompt},
				impl.Stmt{Kind: impl.StSay, N: secret.Seat, Parts: []impl.Part{variable("p"), text(";")}})
		}
	}
	return p[:n]
}

// fillingProg is a program of n statements that fill up what there is.
func fillingProg(r *rand.Rand, n int) []impl.Stmt {
	lines := make([]string, n)
	for i := range lines {
		lines[i] = []string{
			`set a $a "x" $b`, `set b $a "y"`, `log $a $b "` + strings.Repeat("0", 30) + `"`, `say 0 $b "0123"`, `say 2`, `say 1 $a[0:3]`, `wait 1 zz q 0`, `goto 0`, `goto 1`,
		}[r.Intn(9)]
	}
	return prog(lines...)
}

// liveCase is a program, a vault, a world and a fuel, all right.
func liveCase(r *rand.Rand) ([]impl.Stmt, []impl.Secret, []impl.Tick, int64) {
	secrets := 1 + r.Intn(impl.MaxSecrets)
	if r.Intn(12) == 0 {
		secrets = 0
	}
	v := liveVault(r, secrets)
	p := liveProg(r, r.Intn(impl.MaxStmts+1), v)
	switch r.Intn(20) {
	case 0:
		// a program that does anything
		p = progFrom(r, r.Intn(impl.MaxStmts+1))
	case 1, 2:
		p = fillingProg(r, r.Intn(impl.MaxStmts+1))
	}
	fuel := int64(r.Intn(20))
	if r.Intn(3) > 0 {
		fuel = int64(r.Intn(400))
	}
	return p, v, liveWorld(r, r.Intn(impl.MaxTicks+1)), fuel
}

func TestConstantsOfChapterNine(t *testing.T) {
	if impl.MaxLog != 1500 || impl.MaxWaits != 3 {
		t.Error("a limit is not the document's")
	}
	got := []int64{impl.ExDone, impl.ExHalt, impl.ExFull, impl.ExFuel, impl.ExNone}
	if want := []int64{0, 3, 4, 5, 6}; !slices.Equal(got, want) {
		t.Errorf("the exits are %v, want %v", got, want)
	}
}

func TestVarOf(t *testing.T) {
	some := someVars()
	for _, one := range some {
		if got := impl.VarOf(some, one.Name); !alike(got, one.Lab) {
			t.Errorf("%s: %+v, want %+v", one.Name, got, one.Lab)
		}
	}
	for _, name := range append(noWords(), "b", "alpha", "pp", "l", "o", "z", "twelvelette", "nones", "non", "A", "a\x00", strings.Repeat("a", impl.MaxBytes+1)) {
		if got := impl.VarOf(some, name); !alike(got, impl.Lab{}) {
			t.Errorf("%.30q: %+v", name, got)
		}
		if got := impl.VarOf(nil, name); !alike(got, impl.Lab{}) {
			t.Errorf("%.30q of none: %+v", name, got)
		}
	}
	for n := range 21 {
		l := manyVars(n)
		for i, one := range l {
			if got := impl.VarOf(l, one.Name); !alike(got, lab(strconv.Itoa(i), 0)) {
				t.Errorf("%d of %d: %+v", i, n, got)
			}
		}
		if got := impl.VarOf(l, "vaaz"); !alike(got, impl.Lab{}) {
			t.Errorf("none of %d: %+v", n, got)
		}
	}
	for why, wrong := range wrongVars() {
		for _, one := range wrong {
			if got := impl.VarOf(wrong, one.Name); !alike(got, impl.Lab{}) {
				t.Errorf("%s: %s is %+v", why, one.Name, got)
			}
		}
	}
}

func TestEval(t *testing.T) {
	some := someVars()
	alpha, many, hush, full := some[0].Lab, some[1].Lab, some[3].Lab, some[4].Lab
	for i, c := range []struct {
		parts []impl.Part
		want  impl.Lab
	}{
		{nil, impl.Lab{}},
		{[]impl.Part{}, impl.Lab{}},
		{[]impl.Part{text("")}, impl.Lab{}},
		{[]impl.Part{text("x y")}, lab("x y", 0)},
		{[]impl.Part{text("$p")}, lab("$p", 0)},
		{[]impl.Part{text("p")}, lab("p", 0)},
		{[]impl.Part{variable("p")}, hush},
		{[]impl.Part{variable("m")}, many},
		{[]impl.Part{variable("none")}, impl.Lab{}},
		{[]impl.Part{variable("nothere")}, impl.Lab{}},
		{[]impl.Part{variable("twelveletter")}, full},
		{[]impl.Part{cut("p", 0, 4)}, hush},
		{[]impl.Part{cut("p", 0, 0)}, impl.Lab{}},
		{[]impl.Part{cut("p", 1, 3)}, lab("us", 1)},
		{[]impl.Part{cut("p", 3, 4)}, lab("h", 1)},
		{[]impl.Part{cut("p", 3, 5)}, lab("h", 1)},
		{[]impl.Part{cut("p", 2, 200)}, lab("sh", 1)},
		{[]impl.Part{cut("p", 4, 4)}, impl.Lab{}},
		{[]impl.Part{cut("p", 4, 5)}, impl.Lab{}},
		{[]impl.Part{cut("p", 4, 200)}, impl.Lab{}},
		{[]impl.Part{cut("p", 5, 6)}, impl.Lab{}},
		{[]impl.Part{cut("p", 200, 200)}, impl.Lab{}},
		{[]impl.Part{cut("none", 0, 1)}, impl.Lab{}},
		{[]impl.Part{cut("nothere", 3, 9)}, impl.Lab{}},
		{[]impl.Part{cut("m", 5, 17)}, labPart(many, 5, 17)},
		{[]impl.Part{cut("twelveletter", 0, 200)}, full},
		{[]impl.Part{cut("twelveletter", 199, 200)}, labPart(full, 199, 200)},
		{[]impl.Part{cut("twelveletter", 200, 200)}, impl.Lab{}},
		{[]impl.Part{variable("p"), text(";")}, labs(hush, lab(";", 0))},
		{[]impl.Part{text(";"), variable("p")}, labs(lab(";", 0), hush)},
		{[]impl.Part{variable("p"), variable("p"), variable("a")}, labs(hush, hush, alpha)},
		{[]impl.Part{variable("m"), cut("m", 1, 2), text("a b"), variable("none"), variable("nothere"), cut("p", 1, 9)}, labs(many, labPart(many, 1, 2), lab("a b", 0), lab("ush", 1))},
		{slices.Repeat([]impl.Part{variable("p")}, 6), lab(strings.Repeat("hush", 6), 1)},
		{slices.Repeat([]impl.Part{text(strings.Repeat("~", 30))}, 6), lab(strings.Repeat("~", 180), 0)},
	} {
		wantLab(t, fmt.Sprintf("%d: %+v", i, c.parts), impl.Eval(some, c.parts), c.want)
	}
	for from := range int64(201) {
		for _, to := range []int64{from, from + 1, from + 7, 20, 21, 199, 200} {
			if to < from || to > 200 {
				continue
			}
			wantLab(t, fmt.Sprintf("%d to %d", from, to), impl.Eval(some, []impl.Part{cut("m", from, to)}), labPart(many, int(min(from, 20)), int(min(to, 20))))
			wantLab(t, fmt.Sprintf("%d to %d of all", from, to), impl.Eval(some, []impl.Part{cut("twelveletter", from, to)}), labPart(full, int(from), int(to)))
		}
	}
}

// What is put together is as long as a Lab may be, or refused.
func TestEvalUpToMaxLab(t *testing.T) {
	for n := range 201 {
		l := []impl.Var{{Name: "a", Lab: manyLab(n)}, {Name: "b", Lab: otherLab(200)}}
		for _, more := range []int{0, 1, 2, 30, 199 - n, 200 - n, 201 - n, 202 - n, 200} {
			if more < 0 || more > 200 {
				continue
			}
			parts := []impl.Part{variable("a"), cut("b", 0, int64(more))}
			for _, p := range [][]impl.Part{parts, append([]impl.Part{text("")}, parts...), append(parts, variable("c"), text(""))} {
				got := impl.Eval(l, p)
				if n+more > 200 {
					wantFault(t, fmt.Sprintf("%d and %d", n, more), got, impl.ErrFull)
				} else {
					wantLab(t, fmt.Sprintf("%d and %d", n, more), got, labs(manyLab(n), labPart(otherLab(200), 0, more)))
				}
			}
		}
	}
	l := []impl.Var{{Name: "a", Lab: lab(strings.Repeat("a", 170), 0)}}
	long := text(strings.Repeat("b", 30))
	wantLab(t, "just as much", impl.Eval(l, []impl.Part{variable("a"), long}), lab(strings.Repeat("a", 170)+long.Text, 0))
	wantFault(t, "one more", impl.Eval(l, []impl.Part{variable("a"), long, text("c")}), impl.ErrFull)
	wantFault(t, "one more ahead", impl.Eval(l, []impl.Part{text("c"), variable("a"), long}), impl.ErrFull)
	wantFault(t, "more, and less", impl.Eval(l, []impl.Part{variable("a"), variable("a"), text("")}), impl.ErrFull)
	wantFault(t, "as often as it can be", impl.Eval([]impl.Var{{Name: "a", Lab: manyLab(200)}}, slices.Repeat([]impl.Part{variable("a")}, 6)), impl.ErrFull)
}

func TestEvalFaults(t *testing.T) {
	some := someVars()
	for why, wrong := range wrongVars() {
		for _, parts := range [][]impl.Part{nil, {text("a")}, {variable("a")}, {cut("p", 0, 1)}, slices.Repeat([]impl.Part{variable("twelveletter")}, 6)} {
			wantFault(t, why, impl.Eval(wrong, parts), impl.ErrForm)
		}
	}
	for why, wrong := range wrongParts() {
		for _, l := range [][]impl.Var{nil, some} {
			wantFault(t, why, impl.Eval(l, []impl.Part{wrong}), impl.ErrForm)
			wantFault(t, why+" last", impl.Eval(l, []impl.Part{variable("a"), text(""), wrong}), impl.ErrForm)
			// the parts are looked at ahead of how long they are
			wantFault(t, why+" behind too much", impl.Eval(l, []impl.Part{variable("twelveletter"), variable("twelveletter"), wrong}), impl.ErrForm)
			wantFault(t, why+" sixth", impl.Eval(l, append(slices.Repeat([]impl.Part{text("")}, 5), wrong)), impl.ErrForm)
		}
	}
	for n := range impl.MaxList + 1 {
		want := impl.OK
		if n > 6 {
			want = impl.ErrForm
		}
		if got := impl.Eval(some, slices.Repeat([]impl.Part{text("")}, n)); got.Code != int64(want) || !alike(got.Lab, impl.Lab{}) {
			t.Errorf("%d parts: %+v", n, got)
		}
	}
	for n := range 60 {
		want := impl.OK
		if n > 20 {
			want = impl.ErrForm
		}
		if got := impl.Eval(manyVars(n), nil); got.Code != int64(want) {
			t.Errorf("%d variables: %+v", n, got)
		}
	}
}

// Parts over many variables, each held against a walk along them.
func TestPartsArePutTogether(t *testing.T) {
	r := rand.New(rand.NewSource(91))
	full := 0
	for range 20000 {
		var l []impl.Var
		for _, name := range []string{"a", "b", "p", "q"} {
			if r.Intn(4) > 0 {
				l = append(l, impl.Var{Name: name, Lab: labPart(manyLab(200), r.Intn(20), 20+r.Intn(1+r.Intn(181)))})
			}
		}
		parts := liveParts(r)
		want := valueIn(l, parts)
		got := impl.Eval(l, parts)
		if len(want.Text) > 200 {
			full++
			wantFault(t, fmt.Sprintf("%+v by %+v", parts, l), got, impl.ErrFull)
			continue
		}
		wantLab(t, fmt.Sprintf("%+v by %+v", parts, l), got, want)
		if !impl.LabRight(got.Lab) {
			t.Errorf("%+v is not right", got.Lab)
		}
	}
	if full < 500 {
		t.Errorf("just %d were too long", full)
	}
}

func TestRunRight(t *testing.T) {
	v := fourSecrets()
	for _, p := range [][]impl.Stmt{nil, prog("log"), prog("goto 40"), slices.Repeat(prog("end 99"), 40)} {
		for _, n := range []int{1, 2, 59, 60} {
			w := slices.Repeat([]impl.Tick{timeGoes()}, n)
			for what, r := range map[string]impl.Run{"new": newRun(0), "of the most fuel": newRun(100000), "some": someRun(), "full": fullRun(n)} {
				if !impl.RunRight(p, v, w, r) {
					t.Errorf("%s: a right one in a world of %d", what, n)
				}
				for why, wrong := range wrongPrograms() {
					if impl.RunRight(wrong, v, w, r) {
						t.Errorf("%s, the program %s", what, why)
					}
				}
				for why, wrong := range wrongWorlds() {
					if impl.RunRight(p, v, wrong, runBut(r, func(r *impl.Run) { r.Next = 0 })) {
						t.Errorf("%s, the world %s", what, why)
					}
				}
			}
		}
	}
	for why, wrong := range wrongVaults() {
		if impl.RunRight(nil, wrong, nil, newRun(1)) {
			t.Errorf("the vault %s", why)
		}
	}
	for _, n := range []int{1, 7, 60} {
		for why, wrong := range wrongRuns(n) {
			if impl.RunRight(prog("log"), v, slices.Repeat([]impl.Tick{timeGoes()}, n), wrong) {
				t.Errorf("in a world of %d: %s", n, why)
			}
		}
	}
}

// Each number of a run is one that it may be, and no other.
func TestRunRightByNumber(t *testing.T) {
	for n := int64(-300); n <= 300; n++ {
		for _, r := range []impl.Run{newRun(3), runBut(fullRun(60), func(r *impl.Run) { r.Next = 0 })} {
			for ticks := range 61 {
				next := runBut(newRun(1), func(r *impl.Run) { r.Next = n })
				if got := impl.RunRight(nil, nil, slices.Repeat([]impl.Tick{over(1)}, ticks), next); got != (n >= 0 && n <= int64(ticks)) {
					t.Fatalf("Next %d of %d: %v", n, ticks, got)
				}
			}
			for what, c := range map[string]struct {
				do   func(r *impl.Run)
				want bool
			}{
				"At":              {func(r *impl.Run) { r.At = n }, n >= 0 && n <= 40},
				"Waits":           {func(r *impl.Run) { r.Waits = n }, n >= 0 && n <= 3},
				"Exit":            {func(r *impl.Run) { r.Exit = n }, n >= -1 && n <= 199},
				"Fuel":            {func(r *impl.Run) { r.Fuel = n }, n >= 0},
				"Steps":           {func(r *impl.Run) { r.Steps = n }, n >= 0},
				"Fuel at 100000":  {func(r *impl.Run) { r.Fuel = 100000 + n }, n <= 0},
				"Steps, likewise": {func(r *impl.Run) { r.Steps = 100000 + n }, n <= 0},
			} {
				if got := impl.RunRight(nil, nil, nil, runBut(r, c.do)); got != c.want {
					t.Errorf("%s %d: %v", what, n, got)
				}
			}
		}
	}
	for n := range 2000 {
		for what, c := range map[string]struct {
			do   func(r *impl.Run)
			want bool
		}{
			"Log":   {func(r *impl.Run) { r.Log = strings.Repeat("\xff", n) }, n <= 1500},
			"Trace": {func(r *impl.Run) { r.Trace = strings.Repeat("\n", n) }, n <= 1500},
			"Said":  {func(r *impl.Run) { r.Said = strings.Repeat("\x00", n) }, n <= 40},
		} {
			if got := impl.RunRight(nil, nil, nil, runBut(newRun(1), c.do)); got != c.want {
				t.Errorf("%s of %d bytes: %v", what, n, got)
			}
		}
	}
	for n := range 60 {
		vars, seats := newRun(1), newRun(1)
		vars.Vars, seats.Seats = manyVars(n), slices.Repeat([]impl.Seat{{}}, n)
		if got := impl.RunRight(nil, nil, nil, vars); got != (n <= 20) {
			t.Errorf("%d variables: %v", n, got)
		}
		if got := impl.RunRight(nil, nil, nil, seats); got != (n == 3) {
			t.Errorf("%d seats: %v", n, got)
		}
	}
}

func TestBegin(t *testing.T) {
	v, w := fourSecrets(), slices.Repeat([]impl.Tick{says(1, "a")}, 60)
	for _, p := range [][]impl.Stmt{nil, prog("goto 0"), slices.Repeat(prog("end 99"), 40)} {
		for _, fuel := range []int64{0, 1, 2, 255, 256, 65536, 99999, 100000} {
			got := impl.Begin(p, v, w, fuel)
			wantRun(t, "fuel "+strconv.FormatInt(fuel, 10), got, newRun(fuel))
			if !impl.RunRight(p, v, w, got.Run) {
				t.Errorf("a run of fuel %d is right", fuel)
			}
			wantRun(t, "without any words, or anything that happens", impl.Begin(p, nil, nil, fuel), newRun(fuel))
		}
		for _, fuel := range noFuels {
			wantNoRun(t, "fuel "+strconv.FormatInt(fuel, 10), impl.Begin(p, v, w, fuel), impl.ErrForm)
			wantNoRun(t, "all of fuel "+strconv.FormatInt(fuel, 10), impl.RunAll(p, v, w, fuel), impl.ErrForm)
		}
	}
	for name, call := range map[string]func(p []impl.Stmt, v []impl.Secret, w []impl.Tick, fuel int64) impl.RunOut{"Begin": impl.Begin, "RunAll": impl.RunAll} {
		for why, wrong := range wrongPrograms() {
			wantNoRun(t, name+", the program "+why, call(wrong, v, w, 5), impl.ErrForm)
		}
		for why, wrong := range wrongVaults() {
			if len(wrong) <= impl.MaxList {
				wantNoRun(t, name+", the vault "+why, call(prog("log"), wrong, w, 5), impl.ErrForm)
			}
		}
		for why, wrong := range wrongWorlds() {
			wantNoRun(t, name+", the world "+why, call(prog("log"), v, wrong, 5), impl.ErrForm)
		}
	}
}

func TestStepOnFaults(t *testing.T) {
	p, v, w := prog("log"), fourSecrets(), []impl.Tick{hide(1), says(1, "word: ")}
	for why, wrong := range wrongPrograms() {
		wantNoRun(t, "the program "+why, impl.StepOn(wrong, v, w, newRun(5)), impl.ErrForm)
	}
	for why, wrong := range wrongVaults() {
		if len(wrong) <= impl.MaxList {
			wantNoRun(t, "the vault "+why, impl.StepOn(p, wrong, w, newRun(5)), impl.ErrForm)
		}
	}
	for why, wrong := range wrongWorlds() {
		wantNoRun(t, "the world "+why, impl.StepOn(p, v, wrong, newRun(5)), impl.ErrForm)
	}
	for why, wrong := range wrongRuns(len(w)) {
		wantNoRun(t, why, impl.StepOn(p, v, w, wrong), impl.ErrForm)
	}
	for exit := int64(0); exit < 200; exit++ {
		ended := runBut(someRun(), func(r *impl.Run) { r.Exit = exit })
		wantNoRun(t, "exit "+strconv.FormatInt(exit, 10), impl.StepOn(p, v, w, ended), impl.ErrState)
		// what is not right is told ahead of the state that it is in
		ended.Waits = 4
		wantNoRun(t, "not right, and ended", impl.StepOn(p, v, w, ended), impl.ErrForm)
		ended.Waits, ended.Steps = 3, 100000
		wantNoRun(t, "ended with all steps", impl.StepOn(p, v, w, ended), impl.ErrForm)
		ended.Steps, ended.Fuel = 99999, 0
		wantNoRun(t, "ended without fuel", impl.StepOn(p, v, w, ended), impl.ErrState)
	}
	for _, fuel := range []int64{0, 1, 100000} {
		for at := range int64(41) {
			r := runBut(someRun(), func(r *impl.Run) { r.At, r.Fuel, r.Steps = at, fuel, 100000 })
			wantNoRun(t, "all steps are done", impl.StepOn(p, v, w, r), impl.ErrForm)
		}
	}
}

// wantStep checks what a step does besides taking its fuel.
func wantStep(t *testing.T, what string, p []impl.Stmt, v []impl.Secret, w []impl.Tick, r impl.Run, do func(r *impl.Run)) {
	t.Helper()
	want := runBut(r, func(r *impl.Run) { r.Fuel, r.Steps = r.Fuel-1, r.Steps+1 })
	do(&want)
	got := impl.StepOn(p, v, w, r)
	wantRun(t, what, got, want)
	if got.Code == impl.OK && !impl.RunRight(p, v, w, got.Run) {
		t.Errorf("%s: a right run stays right: %+v", what, got.Run)
	}
	wantRun(t, what+", by the test itself", impl.RunOut{Run: stepped(p, v, w, r)}, want)
}

// wantEnd checks with what a run ends that can take no step.
func wantEnd(t *testing.T, what string, p []impl.Stmt, r impl.Run, exit int64) {
	t.Helper()
	wantRun(t, what, impl.StepOn(p, fourSecrets(), []impl.Tick{show(1)}, r), runBut(r, func(r *impl.Run) { r.Exit = exit }))
}

// at is some run at a place.
func at(place int64) impl.Run {
	return runBut(someRun(), func(r *impl.Run) { r.At = place })
}

// goesTo is what a statement does that leads to a place, and does nothing else.
func goesTo(to int64) func(r *impl.Run) {
	return func(r *impl.Run) { r.At = to }
}

// endsAs is what a statement does that ends the run, and does nothing else.
func endsAs(exit int64) func(r *impl.Run) {
	return func(r *impl.Run) { r.Exit = exit }
}

// halts is what a statement does that ends the run for a reason.
func halts(exit int64, said string) func(r *impl.Run) {
	return func(r *impl.Run) { r.Exit, r.Said = exit, said }
}

func TestStepWithoutFuelOrAtTheEnd(t *testing.T) {
	for n := range 41 {
		p := slices.Repeat(prog(`log "x"`), n)
		for place := range int64(41) {
			for _, r := range []impl.Run{at(place), runBut(newRun(7), func(r *impl.Run) { r.At = place })} {
				if place >= int64(n) {
					wantEnd(t, "at the end", p, r, impl.ExDone)
				} else {
					wantStep(t, "ahead of the end", p, nil, []impl.Tick{show(1)}, r, func(r *impl.Run) { r.At, r.Log = r.At+1, r.Log+"x\n" })
				}
				r.Fuel = 0
				wantEnd(t, "without fuel", p, r, impl.ExFuel)
			}
		}
	}
	for _, fuel := range []int64{1, 2, 100000} {
		for _, steps := range []int64{0, 1, 99998, 99999} {
			r := runBut(at(0), func(r *impl.Run) { r.Fuel, r.Steps = fuel, steps })
			wantStep(t, "a step", prog("goto 3"), nil, []impl.Tick{show(1)}, r, goesTo(3))
			wantEnd(t, "at the end", nil, r, impl.ExDone)
			r.Fuel = 0
			wantEnd(t, "without fuel at the end", nil, r, impl.ExFuel)
		}
	}
	// a step of any kind takes its fuel, if it ends the run, too
	for _, line := range []string{"set a", "secret a ann", "secret a none", "say 0", "say 0 $p", "wait 0 zz q 3", "wait 1 word q 3", "log", "if a x 1", "if p x 1", "goto 0", "end 0"} {
		r := impl.StepOn(prog(line), fourSecrets(), []impl.Tick{show(1), timeGoes()}, at(0))
		if r.Code != impl.OK || r.Run.Fuel != 29 || r.Run.Steps != 13 {
			t.Errorf("%s: %+v", line, r)
		}
	}
}

func TestStepSet(t *testing.T) {
	v, w := fourSecrets(), []impl.Tick{show(1)}
	for line, is := range map[string]impl.Lab{
		`"x"`:               lab("x", 0),
		``:                  {},
		`$p`:                lab("hush", 1),
		`$p[1:2] "-" $m`:    labs(lab("u", 1), lab("-", 0), manyLab(20)),
		`$nothere $none`:    {},
		`$twelveletter`:     manyLab(200),
		`$a $a`:             lab("alphaalpha", 0),
		`$p[4:200] $p[2:9]`: lab("sh", 1),
	} {
		for _, name := range []string{"a", "m", "none", "p", "twelveletter", "aa", "b", "zz", "x"} {
			wantStep(t, "set "+name+" "+line, prog("log", strings.TrimSpace("set "+name+" "+line)), v, w, at(1), func(r *impl.Run) {
				r.At, r.Vars = 2, varsBut(r.Vars, name, is)
			})
		}
	}
	for _, line := range []string{`set a $twelveletter "x"`, `set zz $twelveletter $p[0:1]`, `set a $twelveletter $twelveletter $twelveletter $twelveletter $twelveletter $twelveletter`} {
		wantStep(t, line, prog(line), v, w, at(0), endsAs(impl.ExFull))
	}
}

// Whichever kind of statement names a variable, there are at most 20 of them.
func TestStepUpToTwentyVars(t *testing.T) {
	v, w := fourSecrets(), []impl.Tick{show(1)}
	for n := range 21 {
		r := runBut(at(0), func(r *impl.Run) { r.Vars = manyVars(n) })
		for _, name := range []string{"a", "vaaaa", "vaaat", "vaaj", "vaz", "z", "vaaa", "vaab", "vaai", "vaat"} {
			there := slices.ContainsFunc(r.Vars, func(one impl.Var) bool { return one.Name == name })
			for line, is := range map[string]impl.Lab{"set " + name + ` "new"`: lab("new", 0), "secret " + name + " bob": lab("zed", 4), "wait 1 word " + name + " 7": lab("word", 0)} {
				wantStep(t, fmt.Sprintf("%s of %d", line, n), prog(line), v, w, r, func(r *impl.Run) {
					if n == 20 && !there {
						r.Exit = impl.ExFull
						return
					}
					r.At, r.Vars = 1, varsBut(r.Vars, name, is)
					if strings.HasPrefix(line, "wait") {
						r.Seats[1].In, r.Trace = ": ", r.Trace+"<1 word\n"
					}
				})
			}
		}
	}
}

func TestStepSecret(t *testing.T) {
	w := []impl.Tick{show(1)}
	for n := range 5 {
		v := fourSecrets()[:n]
		for i, secret := range fourSecrets() {
			for _, name := range []string{"a", "b", "p", "ann", "zz"} {
				wantStep(t, "secret "+secret.Name, prog("secret "+name+" "+secret.Name), v, w, at(0), func(r *impl.Run) {
					if i < n {
						r.At, r.Vars = 1, varsBut(r.Vars, name, lab(secret.Word, []int64{1, 2, 4, 8}[i]))
					} else {
						r.Exit, r.Said = impl.ExNone, "no "+secret.Name
					}
				})
			}
		}
		for _, name := range []string{"a", "an", "annb", "z", "hush", "p", "word", "twelvelettes"} {
			wantStep(t, "none such", prog("secret a "+name), v, w, at(0), halts(6, "no "+name))
		}
	}
	// that there is none is told ahead of there being no room for it
	r := runBut(at(0), func(r *impl.Run) { r.Vars = manyVars(20) })
	wantStep(t, "no room, and none", prog("secret z none"), fourSecrets(), w, r, halts(6, "no none"))
	wantStep(t, "no room", prog("secret z ann"), fourSecrets(), w, r, endsAs(4))
}

func TestStepSay(t *testing.T) {
	v, w := fourSecrets(), []impl.Tick{show(1)}
	said := func(n int64, line string, is impl.Lab) func(r *impl.Run) {
		return func(r *impl.Run) {
			r.At, r.Trace = 1, r.Trace+line
			r.Seats[n].Out, r.Seats[n].Asked = labs(r.Seats[n].Out, is), 0
		}
	}
	// seat 0 says back what it is told, and asked for bob (4); seats 1 and 2 do not, and asked for ann and bob (5)
	wantStep(t, "nothing", prog("say 0"), v, w, at(0), said(0, ">0 \n", impl.Lab{}))
	wantStep(t, "the empty text", prog(`say 2 "" $none $nothere`), v, w, at(0), said(2, ">2 \n", impl.Lab{}))
	wantStep(t, "a text", prog(`say 0 "a b"`), v, w, at(0), said(0, ">0 a b\n", lab("a b", 0)))
	wantStep(t, "blanks", prog(`say 0 " "`), v, w, at(0), said(0, ">0  \n", lab(" ", 0)))
	wantStep(t, "stars", prog(`say 0 "**"`), v, w, at(0), said(0, ">0 **\n", lab("**", 0)))
	wantStep(t, "a variable", prog(`say 1 $a "!"`), v, w, at(0), said(1, ">1 alpha!\n", lab("alpha!", 0)))
	wantStep(t, "a word", prog(`say 1 $p`), v, w, at(0), said(1, ">1 ****\n", lab("hush", 1)))
	wantStep(t, "a word in a text", prog(`say 1 "<" $p[1:3] ">"`), v, w, at(0), said(1, ">1 <**>\n", labs(lab("<", 0), lab("us", 1), lab(">", 0))))
	wantStep(t, "a word, cut to nothing", prog(`say 0 $p[4:9] $p[0:0]`), v, w, at(0), said(0, ">0 \n", impl.Lab{}))
	wantStep(t, "a word to who says it back", prog(`say 0 $p`), v, w, at(0), halts(3, "denied ann"))
	wantStep(t, "a word to another", prog(`say 2 $p`), v, w, at(0), halts(3, "denied ann"))
	wantStep(t, "a byte of a word to another", prog(`say 2 "far too much" $p[3:4]`), v, w, at(0), halts(3, "denied ann"))
	wantStep(t, "many words", prog(`say 1 $m`), v, w, at(0), halts(3, "denied anna"))
	wantStep(t, "a word that is not there", prog(`say 1 $p`), nil, w, at(0), halts(3, "denied"))
	for n := range 5 {
		for place, name := range []string{"ann", "anna", "bob", "twelveletter"} {
			mark := []int64{1, 2, 4, 8}[place]
			r := runBut(at(0), func(r *impl.Run) { r.Vars[3].Lab = lab("xyz", mark) })
			for seat := range 3 {
				for asked := range int64(16) {
					r.Seats[seat].Asked = asked
					for _, echo := range []bool{false, true} {
						r.Seats[seat].Echo = echo
						do := halts(3, "denied "+name)
						if place >= n {
							do = halts(3, "denied")
						} else if !echo && asked&mark > 0 && fourSecrets()[place].Seat == int64(seat) {
							do = said(int64(seat), fmt.Sprintf(">%d ***\n", seat), lab("xyz", mark))
						}
						wantStep(t, fmt.Sprintf("%s to %d, who asked for %d", name, seat, asked), prog(fmt.Sprintf("say %d $p", seat)), v[:n], w, r, do)
					}
				}
			}
		}
	}
}

func TestStepSayIsFull(t *testing.T) {
	v, w := fourSecrets(), []impl.Tick{show(1)}
	for _, n := range []int{0, 1, 100, 169, 170, 171, 199, 200} {
		for _, more := range []int{0, 1, 2, 29, 30, 31, 59, 60} {
			said := strings.Repeat("b", more)
			line := fmt.Sprintf("say 1 %q %q", said[:min(30, more)], said[min(30, more):])
			r := runBut(at(0), func(r *impl.Run) { r.Seats[1].Out = manyLab(n) })
			wantStep(t, fmt.Sprintf("%d and %d more", n, more), prog(line), v, w, r, func(r *impl.Run) {
				if n+more > 200 {
					r.Exit = impl.ExFull
					return
				}
				r.At, r.Trace = 1, r.Trace+">1 "+said+"\n"
				r.Seats[1].Asked, r.Seats[1].Out = 0, labs(r.Seats[1].Out, lab(said, 0))
			})
		}
	}
	wantStep(t, "too much of parts", prog(`say 1 $twelveletter "a"`), v, w, at(0), endsAs(4))
	wantStep(t, "too much of parts, and denied", prog(`say 2 $twelveletter $p`), v, w, at(0), endsAs(4))
	r := runBut(at(0), func(r *impl.Run) { r.Seats[2].Out, r.Trace = manyLab(200), manyBytes(1500) })
	wantStep(t, "denied, and too much for the seat and the trace", prog(`say 2 $p`), v, w, r, halts(3, "denied ann"))
	wantStep(t, "too much for the seat and the trace", prog(`say 2 "a"`), v, w, r, endsAs(4))
	// what was said is said, even if there is no room to record it
	for n := 1480; n <= 1500; n++ {
		for line, is := range map[string]impl.Lab{`say 1 $p`: lab("hush", 1), `say 1`: {}, `say 1 "a"`: lab("a", 0)} {
			r := runBut(at(0), func(r *impl.Run) { r.Trace, r.Log = manyBytes(n), manyBytes(1500) })
			wantStep(t, fmt.Sprintf("%s with a trace of %d", line, n), prog(line), v, w, r, func(r *impl.Run) {
				r.Seats[1].Out, r.Seats[1].Asked = labs(r.Seats[1].Out, is), 0
				if n+len(is.Text)+4 > 1500 {
					r.Exit = impl.ExFull
					return
				}
				r.At, r.Trace = 1, r.Trace+">1 "+starred(is)+"\n"
			})
		}
	}
}

func TestStepWaitFinds(t *testing.T) {
	v := fourSecrets()
	for _, c := range []struct{ in, glob, found, rest string }{
		{"pass word: ", "word", "word", ": "},
		{"pass word: ", "*:", "pass word:", " "},
		{"pass word: ", "s", "s", "s word: "},
		{"pass word: ", "s*o", "ss wo", "rd: "},
		{"pass word: ", "*", "pass word: ", ""},
		{"pass word: ", "?", "p", "ass word: "},
		{"pass word: ", "d*", "d: ", ""},
		{"", "*", "", ""},
		{"a*b", `\*`, "*", "b"},
		{"\x00\xff\n", "??", "\x00\xff", "\n"},
		{manyBytes(120), "*", manyBytes(120), ""},
		{strings.Repeat("a", 119) + "b", "b", "b", ""},
		{"b" + strings.Repeat("a", 119), "b", "b", strings.Repeat("a", 119)},
		{"abab", "ab", "ab", "ab"},
		{"aab", "a*b", "aab", ""},
	} {
		for n := range 3 {
			for _, waits := range []int64{0, 1, 2, 3} {
				for next := range int64(3) {
					for _, isOver := range []bool{false, true} {
						r := runBut(at(1), func(r *impl.Run) {
							r.Seats[n].In, r.Seats[n].Over, r.Waits, r.Next = c.in, isOver, waits, next
						})
						p := append(prog("log"), impl.Stmt{Kind: impl.StWait, N: int64(n), Text: c.glob, Name: "q", To: 7})
						wantStep(t, fmt.Sprintf("%q in %q", c.glob, c.in), p, v, []impl.Tick{says(0, "x"), timeGoes()}, r, func(r *impl.Run) {
							r.At, r.Waits, r.Vars = 2, 0, varsBut(r.Vars, "q", lab(c.found, 0))
							r.Seats[n].In, r.Trace = c.rest, r.Trace+fmt.Sprintf("<%d ", n)+c.found+"\n"
						})
					}
				}
			}
		}
	}
}

// Where there is no room for what was found, nothing is used up; where there is none to record it, all else is done.
func TestStepWaitIsFull(t *testing.T) {
	w := []impl.Tick{timeGoes(), timeGoes()}
	r := runBut(at(0), func(r *impl.Run) { r.Vars, r.Waits = manyVars(20), 2 })
	wantStep(t, "no room for a variable", prog("wait 1 word q 7"), nil, w, r, endsAs(4))
	for n := 1480; n <= 1500; n++ {
		for _, found := range []string{"pass", "s", "ss word: "} {
			before, after, _ := strings.Cut("pass word: ", found)
			r := runBut(at(0), func(r *impl.Run) { r.Trace, r.Log, r.Waits = manyBytes(n), manyBytes(1500), 2 })
			p := []impl.Stmt{{Kind: impl.StWait, N: 1, Text: strings.ReplaceAll(found, " ", "?"), Name: "m", To: 7}}
			wantStep(t, fmt.Sprintf("%q behind %q with a trace of %d", found, before, n), p, nil, w, r, func(r *impl.Run) {
				r.Vars, r.Waits, r.Seats[1].In = varsBut(r.Vars, "m", lab(found, 0)), 0, after
				if n+len(found)+4 > 1500 {
					r.Exit = impl.ExFull
					return
				}
				r.At, r.Trace = 1, r.Trace+"<1 "+found+"\n"
			})
		}
	}
}

func TestStepWaitGoesOn(t *testing.T) {
	v, p := fourSecrets(), prog("log", "wait 1 zz q 7")
	for n := range 5 {
		for next := range int64(n + 1) {
			for waits := range int64(4) {
				for _, isOver := range []bool{false, true} {
					for i, tick := range []impl.Tick{timeGoes(), hide(0), show(1), hide(2), show(2), over(0), over(1), says(0, ":"), says(1, "word: "), says(2, "word: "), says(0, ""), says(1, "zz")} {
						w := slices.Repeat([]impl.Tick{{Kind: impl.TkSays, Seat: 0, Text: "no"}}, n)
						if next < int64(n) {
							w[next] = tick
						}
						// the seats that one does not wait for may be over
						r := runBut(at(1), func(r *impl.Run) {
							r.Next, r.Waits, r.Seats[1].Over, r.Seats[0].Over = next, waits, isOver, i%2 == 0
						})
						wantStep(t, fmt.Sprintf("%+v at %d of %d, waited %d", tick, next, n, waits), p, v, w, r, func(r *impl.Run) {
							if isOver || next == int64(n) || waits == 3 {
								r.At, r.Waits = 7, 0
								return
							}
							r.Next++
							r.Seats[tick.Seat] = impl.TickDo(r.Seats[tick.Seat], tick.Seat, v, tick).Seat
							if tick.Kind == impl.TkTime {
								r.Waits++
							}
						})
					}
				}
			}
		}
	}
	for to := range int64(41) {
		p := []impl.Stmt{{Kind: impl.StWait, Text: "zz", Name: "q", To: to}}
		r := runBut(at(0), func(r *impl.Run) { r.Waits = 3 })
		wantStep(t, "waited too long", p, v, []impl.Tick{timeGoes(), timeGoes()}, r, func(r *impl.Run) { r.At, r.Waits = to, 0 })
	}
}

// What is said asks for words, and what there is no room for is gone by.
func TestStepWaitHears(t *testing.T) {
	v := fourSecrets()
	p := prog("wait 2 zz q 7")
	r := newRun(9)
	wantStep(t, "one asks", p, v, []impl.Tick{says(1, "word: ")}, r, func(r *impl.Run) {
		r.Next, r.Seats[1] = 1, impl.Seat{Echo: true, In: "word: ", Asked: 1}
	})
	wantStep(t, "one hides", p, v, []impl.Tick{hide(1)}, r, func(r *impl.Run) { r.Next, r.Seats[1].Echo = 1, false })
	wantStep(t, "one is over", p, v, []impl.Tick{over(2)}, r, func(r *impl.Run) { r.Next, r.Seats[2].Over = 1, true })
	wantStep(t, "time goes by", p, v, []impl.Tick{timeGoes()}, r, func(r *impl.Run) { r.Next, r.Waits = 1, 1 })
	for n := range 121 {
		for _, more := range []int{0, 1, 2, 59, 60} {
			for seat := range 3 {
				said := strings.Repeat("s", more)
				r := runBut(newRun(9), func(r *impl.Run) { r.Seats[seat].In, r.Waits = strings.Repeat("i", n), 2 })
				wantStep(t, fmt.Sprintf("%d more behind %d", more, n), p, nil, []impl.Tick{says(int64(seat), said)}, r, func(r *impl.Run) {
					r.Next = 1
					if n+more > 120 {
						r.Exit = impl.ExFull
						return
					}
					r.Seats[seat].In += said
				})
			}
		}
	}
}

func TestStepLog(t *testing.T) {
	v, w := fourSecrets(), []impl.Tick{show(1)}
	for line, logged := range map[string]string{
		`log`:                    "\n",
		`log ""`:                 "\n",
		`log "x  y"`:             "x  y\n",
		`log "sent " $p`:         "sent ****\n",
		`log $p[0:1] $a[1:3]`:    "*lp\n",
		`log $m`:                 starred(manyLab(20)) + "\n",
		`log $twelveletter`:      starred(manyLab(200)) + "\n",
		`log $nothere "*" $none`: "*\n",
	} {
		wantStep(t, line, prog(line), v, w, at(0), func(r *impl.Run) { r.At, r.Log = 1, r.Log+logged })
	}
	wantStep(t, "too much of parts", prog(`log $twelveletter "x"`), v, w, at(0), endsAs(4))
	for n := 1280; n <= 1500; n++ {
		for line, logged := range map[string]string{`log`: "\n", `log "x"`: "x\n", `log $p`: "****\n", `log $twelveletter`: starred(manyLab(200)) + "\n"} {
			r := runBut(at(0), func(r *impl.Run) { r.Log, r.Trace = manyBytes(n), manyBytes(1500) })
			wantStep(t, fmt.Sprintf("%s behind %d", line, n), prog(line), v, w, r, func(r *impl.Run) {
				if n+len(logged) > 1500 {
					r.Exit = impl.ExFull
					return
				}
				r.At, r.Log = 1, r.Log+logged
			})
		}
	}
}

func TestStepIfAndGoto(t *testing.T) {
	v, w := fourSecrets(), []impl.Tick{show(1)}
	for to := range int64(41) {
		wantStep(t, "goto", []impl.Stmt{{Kind: impl.StGoto, To: to}}, v, w, at(0), goesTo(to))
		for _, c := range []struct {
			name, text string
			alike      bool
		}{
			{"a", "alpha", true}, {"a", "", false}, {"a", "alph", false}, {"a", "alphas", false}, {"a", "*", false}, {"a", "a", false}, {"a", "ALPHA", false},
			{"none", "", true}, {"none", "x", false}, {"nothere", "", true}, {"nothere", "none", false}, {"nothere", "nothere", false},
		} {
			next := int64(1)
			if c.alike {
				next = to
			}
			wantStep(t, fmt.Sprintf("if %+v", c), []impl.Stmt{{Kind: impl.StIf, Name: c.name, Text: c.text, To: to}}, v, w, at(0), goesTo(next))
		}
		for _, name := range []string{"p", "m", "twelveletter"} {
			for _, is := range []string{"", "hush", "****", "x"} {
				wantStep(t, "if of a word", []impl.Stmt{{Kind: impl.StIf, Name: name, Text: is, To: to}}, v, w, at(0), halts(3, "denied if"))
			}
		}
	}
	for place := range 30 {
		for mark := range int64(16) {
			r := runBut(at(0), func(r *impl.Run) {
				r.Vars[0].Lab = lab(strings.Repeat("a", 30), 0)
				r.Vars[0].Lab.Marks[place] = mark
			})
			do := goesTo(9)
			if mark > 0 {
				do = halts(3, "denied if")
			}
			wantStep(t, fmt.Sprintf("the mark %d at %d", mark, place), prog("if a "+strings.Repeat("a", 30)+" 9"), v, w, r, do)
		}
	}
}

func TestStepEnd(t *testing.T) {
	w := []impl.Tick{show(1)}
	for n := range int64(100) {
		for place := range int64(40) {
			p := slices.Repeat([]impl.Stmt{{Kind: impl.StEnd, N: n}}, 40)
			wantStep(t, "end", p, fourSecrets(), w, at(place), endsAs(100+n))
		}
	}
}

// Whatever ends the run, it ends where it is, and does not begin anew.
func TestWhatEndsStaysWhereItIs(t *testing.T) {
	w := []impl.Tick{says(2, strings.Repeat("a", 60)), says(2, strings.Repeat("a", 60))}
	for line, exit := range map[string]int64{
		`set a $twelveletter "x"`: 4, `set z`: 4, `secret a none`: 6, `secret z ann`: 4, `say 0 $twelveletter "x"`: 4, `say 0 $vaaa`: 3, `say 1 "x"`: 4,
		`wait 0 word z 3`: 4, `wait 0 zz q 3`: 4, `wait 0 word vaac 3`: 4, `log $twelveletter "x"`: 4, `log "x"`: 4, `if vaaa x 3`: 3, `end 9`: 109,
	} {
		for place := range 40 {
			r := runBut(fullRun(1), func(r *impl.Run) {
				r.Vars[0].Lab, r.Vars[2].Lab, r.Vars[19].Name = lab("hush", 1), lab("x", 0), "twelveletter"
				slices.SortFunc(r.Vars, func(a impl.Var, b impl.Var) int { return strings.Compare(a.Name, b.Name) })
				r.At, r.Exit, r.Steps, r.Waits = int64(place), -1, 0, 0
				r.Seats[0] = impl.Seat{In: "word: "}
			})
			p := slices.Repeat(prog("log"), 40)
			p[place] = prog(line)[0]
			got := impl.StepOn(p, fourSecrets(), w, r)
			if got.Code != impl.OK || got.Run.Exit != exit || got.Run.At != int64(place) {
				t.Errorf("%s at %d: code %d, exit %d, at %d", line, place, got.Code, got.Run.Exit, got.Run.At)
				continue
			}
			wantNoRun(t, line+", and on", impl.StepOn(p, fourSecrets(), w, got.Run), impl.ErrState)
			wantRun(t, line+", by the test itself", got, stepped(p, fourSecrets(), w, r))
		}
	}
}

// wantEnded checks with what a run as a whole ends, and that this is where its steps lead.
func wantEnded(t *testing.T, what string, p []impl.Stmt, v []impl.Secret, w []impl.Tick, fuel int64, want impl.Seen) impl.Run {
	t.Helper()
	got := impl.RunAll(p, v, w, fuel)
	if got.Code != impl.OK || impl.SeenOf(got.Run) != want {
		t.Errorf("%s: code %d, %+v, want %+v", what, got.Code, impl.SeenOf(got.Run), want)
	}
	way := steppedOn(p, v, w, fuel)
	wantRun(t, what+", step by step", got, way[len(way)-1])
	return got.Run
}

func TestRunAll(t *testing.T) {
	v := fourSecrets()
	w := []impl.Tick{hide(1), says(1, "pass word: "), says(0, "a:"), hide(0), says(2, "x")}
	asks := prog("secret p ann", "wait 1 *: q 4", "say 1 $p \";\"", "log \"sent \" $p", "end 7")
	r := wantEnded(t, "a word is asked for", asks, v, w, 50, impl.Seen{Exit: 107, Steps: 7, Log: "sent ****\n", Trace: "<1 pass word:\n>1 ****;\n"})
	want := impl.Run{
		At: 4, Fuel: 43, Next: 2, Steps: 7, Exit: 107, Vars: []impl.Var{{Name: "p", Lab: lab("hush", 1)}, {Name: "q", Lab: lab("pass word:", 0)}},
		Seats: []impl.Seat{{Echo: true}, {In: " ", Out: labs(lab("hush", 1), lab(";", 0))}, {Echo: true}}, Log: "sent ****\n", Trace: "<1 pass word:\n>1 ****;\n",
	}
	if !runsAlike(r, want) {
		t.Errorf("got %+v, want %+v", r, want)
	}
	for _, c := range []struct {
		what  string
		lines []string
		fuel  int64
		want  impl.Seen
	}{
		{"nothing to be done", nil, 5, impl.Seen{Exit: 0}},
		{"nothing to be done, without fuel", nil, 0, impl.Seen{Exit: 5}},
		{"done", []string{"log \"a\"", "log \"b\""}, 5, impl.Seen{Exit: 0, Steps: 2, Log: "a\nb\n"}},
		{"done, with just the fuel", []string{"log \"a\"", "log \"b\""}, 3, impl.Seen{Exit: 0, Steps: 2, Log: "a\nb\n"}},
		{"not told to be done, for want of fuel", []string{"log \"a\"", "log \"b\""}, 2, impl.Seen{Exit: 5, Steps: 2, Log: "a\nb\n"}},
		{"not done, for want of fuel", []string{"log \"a\"", "log \"b\""}, 1, impl.Seen{Exit: 5, Steps: 1, Log: "a\n"}},
		{"without fuel", []string{"log \"a\"", "log \"b\""}, 0, impl.Seen{Exit: 5}},
		{"ended", []string{"end 0"}, 5, impl.Seen{Exit: 100, Steps: 1}},
		{"ended, with the last of the fuel", []string{"end 99"}, 1, impl.Seen{Exit: 199, Steps: 1}},
		{"gone to the end", []string{"goto 2", "log", "log \"b\""}, 9, impl.Seen{Exit: 0, Steps: 2, Log: "b\n"}},
		{"gone beyond the end", []string{"goto 40"}, 9, impl.Seen{Exit: 0, Steps: 1}},
		{"round and round", []string{"goto 0"}, 5, impl.Seen{Exit: 5, Steps: 5}},
		{"round and round for long", []string{"goto 1", "goto 0"}, 99999, impl.Seen{Exit: 5, Steps: 99999}},
		{"no such word", []string{"log \"a\"", "secret p nobody"}, 5, impl.Seen{Exit: 6, Steps: 2, Log: "a\n", Said: "no nobody"}},
		{"a word for another", []string{"secret p bob", "say 1 $p"}, 5, impl.Seen{Exit: 3, Steps: 2, Said: "denied bob"}},
		{"a word that was not asked for", []string{"wait 1 *: q 1", "secret p twelveletter", "say 1 $p"}, 9, impl.Seen{Exit: 3, Steps: 5, Trace: "<1 pass word:\n", Said: "denied twelveletter"}},
		{"a word once more", []string{"wait 1 *: q 1", "secret p ann", "say 1 $p", "say 1 $p"}, 9, impl.Seen{Exit: 3, Steps: 6, Trace: "<1 pass word:\n>1 ****\n", Said: "denied ann"}},
		{"a look at a word", []string{"secret p ann", "if p hush 0"}, 5, impl.Seen{Exit: 3, Steps: 2, Said: "denied if"}},
		{"a look at a piece of a word", []string{"secret p ann", "set q \"x\" $p[1:2]", "if q xu 0"}, 5, impl.Seen{Exit: 3, Steps: 3, Said: "denied if"}},
		{"a look at no piece of a word", []string{"secret p ann", "set q \"x\" $p[9:12]", "if q x 4", "end 1", "end 2"}, 5, impl.Seen{Exit: 102, Steps: 4}},
		{"ever longer", []string{"set a $a \"0123456789\"", "goto 0"}, 99, impl.Seen{Exit: 4, Steps: 41}},
		{"ever more said", []string{"say 0 \"0123456789\"", "goto 0"}, 99, impl.Seen{Exit: 4, Steps: 41, Trace: strings.Repeat(">0 0123456789\n", 20)}},
		{"ever more recorded", []string{"say 0", "goto 0"}, 999, impl.Seen{Exit: 4, Steps: 751, Trace: strings.Repeat(">0 \n", 375)}},
		{"ever more logged", []string{"log \"01234567890123456789012345678\"", "goto 0"}, 999, impl.Seen{Exit: 4, Steps: 101, Log: strings.Repeat("01234567890123456789012345678\n", 50)}},
		{"waited to the end", []string{"wait 2 zz q 1", "log \"none\""}, 9, impl.Seen{Exit: 0, Steps: 7, Log: "none\n"}},
		{"waited for two", []string{"wait 0 a a 3", "wait 1 word b 3", "log $b $a", "end 2"}, 9, impl.Seen{Exit: 102, Steps: 7, Log: "worda\n", Trace: "<0 a\n<1 word\n"}},
	} {
		wantEnded(t, c.what, prog(c.lines...), v, w, c.fuel, c.want)
	}
	// the time that went by is not counted on from one wait to the next one that does not wait for as long
	w = []impl.Tick{timeGoes(), timeGoes(), says(0, "a"), timeGoes(), timeGoes(), timeGoes(), timeGoes(), says(0, "b")}
	wantEnded(t, "time goes by", prog("wait 0 a q 4", "wait 0 b q 4", "end 1", "end 2", "log $q", "end 3"), v, w, 99, impl.Seen{Exit: 103, Steps: 10, Log: "a\n", Trace: "<0 a\n"})
	wantEnded(t, "time goes by, and one waits anew", prog("wait 0 b q 0", "log $q"), v, w, 99, impl.Seen{Exit: 0, Steps: 12, Log: "b\n", Trace: "<0 b\n"})
	w = []impl.Tick{over(0), says(0, "a"), timeGoes()}
	wantEnded(t, "one is over", prog("wait 0 a q 1", "wait 1 a q 2", "wait 0 a q 9"), v, w, 99, impl.Seen{Exit: 0, Steps: 6, Trace: "<0 a\n"})
}

// Of a run of 100000 steps that has not ended there is no step more: it is refused as that step is.
func TestRunAllOfTheMostFuel(t *testing.T) {
	round := prog("goto 0")
	wantNoRun(t, "it never ends", impl.RunAll(round, nil, nil, 100000), impl.ErrForm)
	last := newRun(0)
	last.Steps = 100000
	wantNoRun(t, "nor does its last step", impl.StepOn(round, nil, nil, last), impl.ErrForm)
	wantEnded(t, "it ends", prog("log", "end 1"), nil, nil, 100000, impl.Seen{Exit: 101, Steps: 2, Log: "\n"})
	want := newRun(0)
	want.Steps, want.Exit = 99999, 5
	wantRun(t, "one less", impl.RunAll(round, nil, nil, 99999), want)
	want.Steps, want.Exit = 100000, 107
	before := newRun(1)
	before.Steps = 99999
	wantRun(t, "the last step ends it", impl.StepOn(prog("end 7"), nil, nil, before), want)
}

func TestSeenOf(t *testing.T) {
	for i, r := range []impl.Run{newRun(5), someRun(), fullRun(3), {}, {Log: "a", Trace: "b", Said: "c", Exit: 7, Steps: 9}, {Log: "a\n", Exit: 200, Steps: -1, Trace: manyBytes(impl.MaxBytes + 1)}} {
		want := impl.Seen{Log: r.Log, Trace: r.Trace, Said: r.Said, Exit: r.Exit, Steps: r.Steps}
		if got := impl.SeenOf(r); got != want {
			t.Errorf("%d: %+v, want %+v", i, got, want)
		}
		// nothing else is seen
		other := runBut(r, func(r *impl.Run) { r.At, r.Fuel, r.Next, r.Waits, r.Vars, r.Seats = 9, 8, 7, 2, manyVars(3), nil })
		if got := impl.SeenOf(other); got != want {
			t.Errorf("%d, with other things: %+v, want %+v", i, got, want)
		}
	}
}

// Promise 9: each step is the one that the test itself tells, a right run stays right, and as a whole it does what it does step by step.
func TestRunsGoOnStepByStep(t *testing.T) {
	r := rand.New(rand.NewSource(92))
	exits := map[int64]int{}
	for range 3000 {
		p, v, w, fuel := liveCase(r)
		what := fmt.Sprintf("%s%+v %+v %d", impl.ProgText(p), v, w, fuel)
		now := impl.Begin(p, v, w, fuel)
		wantRun(t, what, now, newRun(fuel))
		steps := int64(0)
		for now.Code == impl.OK && now.Run.Exit == -1 {
			want := stepped(p, v, w, now.Run)
			next := impl.StepOn(p, v, w, now.Run)
			wantRun(t, "a step", next, want)
			if t.Failed() || !impl.RunRight(p, v, w, next.Run) {
				t.Fatalf("%s, step %d: not right: %+v", what, steps, next)
			}
			if next.Run.Steps != now.Run.Steps {
				steps++
			}
			now = next
		}
		if now.Run.Steps != steps || steps > fuel || now.Run.Fuel+steps != fuel {
			t.Fatalf("%s: %d steps: %+v", what, steps, now)
		}
		wantRun(t, what, impl.RunAll(p, v, w, fuel), now.Run)
		wantNoRun(t, what+", and on", impl.StepOn(p, v, w, now.Run), impl.ErrState)
		if now.Run.Exit >= 100 {
			now.Run.Exit = 100
		}
		exits[now.Run.Exit]++
	}
	for _, exit := range []int64{0, 3, 4, 5, 6, 100} {
		if exits[exit] < 40 {
			t.Errorf("just %d end with %d: %v", exits[exit], exit, exits)
		}
	}
}

// Steps from runs that no program may have come to.
func TestStepsFromAnywhere(t *testing.T) {
	r := rand.New(rand.NewSource(93))
	exits := map[int64]int{}
	for range 12000 {
		p, v, w, fuel := liveCase(r)
		now := impl.Run{
			At: int64(r.Intn(41)), Fuel: min(fuel, 99999), Next: int64(r.Intn(len(w) + 1)), Waits: int64(r.Intn(4)), Steps: int64(r.Intn(100000)), Exit: -1,
			Log: manyBytes(1500 - r.Intn(60)), Trace: manyBytes(1500 - r.Intn(60)), Said: manyBytes(r.Intn(41)),
		}
		if len(p) > 0 {
			now.At = int64(r.Intn(len(p)))
		}
		now.Vars = manyVars([]int{0, 3, 17, 18}[r.Intn(4)])
		for _, name := range []string{"a", "q"} {
			now.Vars = varsBut(now.Vars, name, labPart(manyLab(200), r.Intn(20), 20+r.Intn(1+r.Intn(181))))
		}
		if r.Intn(2) == 0 {
			now.Vars = varsBut(now.Vars, "a", lab(bytesFrom(r, "ab:", r.Intn(3)), 0))
		}
		for range 3 {
			now.Seats = append(now.Seats, impl.Seat{Echo: r.Intn(4) == 0, Over: r.Intn(4) == 0, In: bytesFrom(r, "ab:", r.Intn(1+r.Intn(121))), Asked: int64(r.Intn(16)), Out: manyLab(r.Intn(201))})
		}
		if !impl.RunRight(p, v, w, now) {
			t.Fatalf("not right: %+v", now)
		}
		want := stepped(p, v, w, now)
		got := impl.StepOn(p, v, w, now)
		wantRun(t, "from anywhere", got, want)
		if t.Failed() || !impl.RunRight(p, v, w, got.Run) {
			t.Fatalf("%s%+v %+v %+v: %+v", impl.ProgText(p), v, w, now, got)
		}
		exits[min(got.Run.Exit, 100)]++
	}
	for _, exit := range []int64{-1, 0, 3, 4, 5, 6, 100} {
		if exits[exit] < 100 {
			t.Errorf("just %d end with %d: %v", exits[exit], exit, exits)
		}
	}
}

// Promise 9: with any fuel a run comes as far as with more of it, but for its end.
func TestRunsOfLessFuel(t *testing.T) {
	r := rand.New(rand.NewSource(94))
	for range 150 {
		p, v, w, _ := liveCase(r)
		way := steppedOn(p, v, w, 100)
		for fuel := range int64(101) {
			want := way[len(way)-1]
			if fuel <= want.Steps {
				want = way[fuel]
				if want.Steps < fuel || want.Exit != -1 {
					want = way[len(way)-1]
				} else {
					want.Exit = 5
				}
			}
			want.Fuel = fuel - want.Steps
			// a run that ends in a step has no need of fuel behind it
			if last := way[len(way)-1]; fuel == last.Steps && last.Exit != 0 && last.Exit != 5 {
				want = last
				want.Fuel = 0
			}
			wantRun(t, "with less fuel", impl.RunAll(p, v, w, fuel), want)
			if t.Failed() {
				t.Fatalf("%s%+v %+v %d", impl.ProgText(p), v, w, fuel)
			}
		}
	}
}

// otherWords is a vault of the same shape, with other words.
func otherWords(r *rand.Rand, v []impl.Secret) []impl.Secret {
	v = copyOf(v)
	for i := range v {
		v[i].Word = bytesFrom(r, alphabet[:26], len(v[i].Word))
	}
	return v
}

// sameBut tells, without asking the program, whether two Labs differ in nothing but words that are for the one at a seat.
func sameBut(a impl.Lab, b impl.Lab, n int64, v []impl.Secret) bool {
	if !slices.Equal(a.Marks, b.Marks) || len(a.Text) != len(b.Text) {
		return false
	}
	for i, mark := range a.Marks {
		place := slices.Index([]int64{1, 2, 4, 8}, mark)
		if a.Text[i] != b.Text[i] && (place < 0 || place >= len(v) || v[place].Seat != n) {
			return false
		}
	}
	return true
}

// Promise 10: whatever the words are, who looks on sees the same, and to each the same is said but for that one's words.
func TestWhoLooksOnLearnsNoWord(t *testing.T) {
	r := rand.New(rand.NewSource(95))
	others, told := 0, 0
	for range 2000 {
		p, v, w, fuel := liveCase(r)
		what := fmt.Sprintf("%s%+v %+v %d", impl.ProgText(p), v, w, fuel)
		other := otherWords(r, v)
		for _, other := range [][]impl.Secret{other, impl.Twin(v, 1+int64(r.Intn(25)))} {
			a, b := impl.Begin(p, v, w, fuel), impl.Begin(p, other, w, fuel)
			for a.Run.Exit == -1 {
				a, b = impl.StepOn(p, v, w, a.Run), impl.StepOn(p, other, w, b.Run)
				if a.Code != impl.OK || b.Code != impl.OK || impl.SeenOf(a.Run) != impl.SeenOf(b.Run) {
					t.Fatalf("%s: with other words:\n%+v\n%+v", what, a, b)
				}
				for n := range a.Run.Seats {
					one, two := a.Run.Seats[n], b.Run.Seats[n]
					if !sameBut(one.Out, two.Out, int64(n), v) {
						t.Fatalf("%s: to %d is said:\n%+v\n%+v", what, n, one.Out, two.Out)
					}
					two.Out = one.Out
					if !seatsAlike(one, two) {
						t.Fatalf("%s: at %d:\n%+v\n%+v", what, n, one, two)
					}
				}
			}
			all, twin := impl.RunAll(p, v, w, fuel), impl.RunAll(p, other, w, fuel)
			if impl.SeenOf(all.Run) != impl.SeenOf(twin.Run) || impl.SeenOf(all.Run) != impl.SeenOf(a.Run) {
				t.Fatalf("%s: with other words:\n%+v\n%+v", what, all, twin)
			}
			for n := range all.Run.Seats {
				one, two := all.Run.Seats[n].Out, twin.Run.Seats[n].Out
				if !sameBut(one, two, int64(n), v) {
					t.Fatalf("%s: to %d is said:\n%+v\n%+v", what, n, one, two)
				}
				if one.Text != two.Text {
					others++
				}
				if starred(one) != one.Text {
					told++
				}
			}
		}
	}
	if others < 400 || told < others {
		t.Errorf("just %d were told other words, %d any", others, told)
	}
}

// Promise 11: what is marked is said to the one that it is for, who asked for it, alone; else the run is stopped, and nothing is said.
func TestEachStepSaysWordsToOneAlone(t *testing.T) {
	r := rand.New(rand.NewSource(96))
	told, denied := 0, 0
	for range 3000 {
		p, v, w, fuel := liveCase(r)
		now := impl.Begin(p, v, w, fuel).Run
		for now.Exit == -1 {
			next := impl.StepOn(p, v, w, now).Run
			says := next.Steps > now.Steps && p[now.At].Kind == impl.StSay
			for n := range next.Seats {
				was, is := now.Seats[n], next.Seats[n]
				if alike(was.Out, is.Out) {
					continue
				}
				more := labPart(is.Out, len(was.Out.Text), len(is.Out.Text))
				if !says || p[now.At].N != int64(n) || !alike(labs(was.Out, more), is.Out) || !alike(more, valueIn(now.Vars, p[now.At].Parts)) {
					t.Fatalf("%s%+v %+v\n%+v: to %d is said %+v", impl.ProgText(p), v, w, now, n, more)
				}
				for i, mark := range more.Marks {
					if mark == 0 {
						continue
					}
					told++
					place := slices.Index([]int64{1, 2, 4, 8}, mark)
					if place < 0 || place >= len(v) || v[place].Seat != int64(n) || was.Echo || was.Asked&mark == 0 || !strings.Contains(v[place].Word, more.Text[i:i+1]) {
						t.Fatalf("%s%+v %+v\n%+v: the byte %d of %+v may not be said to %d", impl.ProgText(p), v, w, now, i, more, n)
					}
				}
			}
			if says && deniedAt(now.Seats[p[now.At].N], p[now.At].N, v, valueIn(now.Vars, p[now.At].Parts)) >= 0 && len(valueIn(now.Vars, p[now.At].Parts).Text) <= 200 {
				denied++
				if next.Exit != 3 || next.At != now.At || !slices.EqualFunc(now.Seats, next.Seats, seatsAlike) || next.Trace != now.Trace || next.Log != now.Log {
					t.Fatalf("%s%+v %+v\n%+v: not stopped: %+v", impl.ProgText(p), v, w, now, next)
				}
			}
			now = next
		}
	}
	if told < 1000 || denied < 400 {
		t.Errorf("just %d bytes were told, %d times was it denied", told, denied)
	}
}

// Promise 14: who asks for a word, and does not say it back, gets just that word; the log shows no more than how long it is.
func TestWhoAsksGetsJustThatWord(t *testing.T) {
	r := rand.New(rand.NewSource(97))
	for range 1000 {
		v := vaultFrom(r, 1+r.Intn(4))
		for i := range v {
			// prompts that end with a byte of their own, so that one asks for one word alone
			v[i].Prompt = impl.GlobQuote(bytesFrom(r, "xyz*?", r.Intn(10))) + string("abcd"[i])
		}
		for i, secret := range v {
			n := secret.Seat
			asks := says(n, bytesFrom(r, "xyz", r.Intn(20))+strings.ReplaceAll(secret.Prompt, `\`, ""))
			lines := []string{"secret p " + secret.Name, fmt.Sprintf("wait %d *%c q 5", n, "abcd"[i]), fmt.Sprintf("say %d $p", n), "log \"got \" $p", "end 1", "end 2"}
			p := prog(lines...)
			mark, stars := []int64{1, 2, 4, 8}[i], strings.Repeat("*", len(secret.Word))
			found := fmt.Sprintf("<%d %s\n", n, asks.Text)
			got := wantEnded(t, "asked", p, v, []impl.Tick{hide(n), asks}, 50, impl.Seen{Exit: 101, Steps: 7, Log: "got " + stars + "\n", Trace: found + fmt.Sprintf(">%d %s\n", n, stars)})
			if out := got.Seats[n].Out; !alike(out, lab(secret.Word, mark)) {
				t.Fatalf("%d of %+v got %+v", n, v, out)
			}
			for other := range int64(3) {
				if other != n && !alike(got.Seats[other].Out, impl.Lab{}) {
					t.Fatalf("%d of %+v got %+v", other, v, got.Seats[other].Out)
				}
			}
			stopped := impl.Seen{Exit: 3, Steps: 5, Trace: found, Said: "denied " + secret.Name}
			wantEnded(t, "hidden, and shown anew", p, v, []impl.Tick{hide(n), says(n, ""), show(n), asks}, 50, impl.Seen{Exit: 3, Steps: 7, Trace: found, Said: stopped.Said})
			wantEnded(t, "said back", p, v, []impl.Tick{hide((n + 1) % 3), asks}, 50, stopped)
			wantEnded(t, "not asked", p, v, []impl.Tick{hide(n), says(n, "abcd"[i:i+1]+"!")}, 50, impl.Seen{Exit: 3, Steps: 5, Trace: found[:3] + "abcd"[i:i+1] + "\n", Said: stopped.Said})
			twice := prog(append(lines[:4], lines[2])...)
			wantEnded(t, "told twice", twice, v, []impl.Tick{hide(n), asks}, 50, impl.Seen{Exit: 3, Steps: 7, Log: "got " + stars + "\n", Trace: found + fmt.Sprintf(">%d %s\n", n, stars), Said: stopped.Said})
			other := prog(lines[0], lines[1], fmt.Sprintf("say %d $p", (n+1)%3))
			wantEnded(t, "to another", other, v, []impl.Tick{hide(0), hide(1), hide(2), asks}, 50, impl.Seen{Exit: 3, Steps: 7, Trace: found, Said: stopped.Said})
		}
		if t.Failed() {
			return
		}
	}
}

// A text, or a list, that is too large is refused ahead of all else, by each call that takes one.
func TestTooLargeForRunsIsRefused(t *testing.T) {
	for _, n := range []int{impl.MaxList + 1, 2 * impl.MaxList, 1 << 14} {
		vars, parts := slices.Repeat([]impl.Var{{Name: "a"}}, n), slices.Repeat([]impl.Part{text("")}, n)
		for _, l := range [][]impl.Var{nil, {{}}, someVars(), vars} {
			wantFault(t, "many parts", impl.Eval(l, parts), impl.ErrSize)
			wantFault(t, "many wrong parts", impl.Eval(l, make([]impl.Part, n)), impl.ErrSize)
		}
		for _, p := range [][]impl.Part{nil, {{}}, {variable("a")}, parts} {
			wantFault(t, "many variables", impl.Eval(vars, p), impl.ErrSize)
			wantFault(t, "many rising variables", impl.Eval(manyVars(min(n, 17576)), p), impl.ErrSize)
		}
		if got := impl.VarOf(manyVars(min(n, 17576)), "vaaab"); !alike(got, impl.Lab{}) {
			t.Errorf("of %d variables: %+v", n, got)
		}
		stmts, secrets, ticks := slices.Repeat(prog("log"), n), manySecrets(n), slices.Repeat([]impl.Tick{timeGoes()}, n)
		for _, c := range []struct {
			p []impl.Stmt
			v []impl.Secret
			w []impl.Tick
		}{
			{stmts, nil, nil}, {nil, secrets, nil}, {nil, nil, ticks}, {stmts, secrets, ticks},
			{make([]impl.Stmt, n), []impl.Secret{{}}, []impl.Tick{{}}}, {[]impl.Stmt{{}}, make([]impl.Secret, n), []impl.Tick{{}}}, {[]impl.Stmt{{}}, []impl.Secret{{}}, make([]impl.Tick, n)},
		} {
			for _, fuel := range []int64{0, 5, -1, 100001} {
				wantNoRun(t, "Begin", impl.Begin(c.p, c.v, c.w, fuel), impl.ErrSize)
				wantNoRun(t, "RunAll", impl.RunAll(c.p, c.v, c.w, fuel), impl.ErrSize)
			}
			for _, r := range []impl.Run{newRun(1), {}, fullRun(0), {Exit: 300, Seats: make([]impl.Seat, n)}} {
				wantNoRun(t, "StepOn", impl.StepOn(c.p, c.v, c.w, r), impl.ErrSize)
				if impl.RunRight(c.p, c.v, c.w, r) {
					t.Error("not right: too much is handed in")
				}
			}
		}
	}
	// what is a field of something is not handed in as such
	for _, n := range []int{impl.MaxList, impl.MaxList + 1, impl.MaxBytes + 1} {
		for _, do := range []func(r *impl.Run){
			func(r *impl.Run) { r.Vars = manyVars(n) }, func(r *impl.Run) { r.Seats = make([]impl.Seat, n) },
			func(r *impl.Run) { r.Log = manyBytes(8 * n) }, func(r *impl.Run) { r.Trace = manyBytes(8 * n) }, func(r *impl.Run) { r.Said = manyBytes(8 * n) },
		} {
			wantNoRun(t, "a field", impl.StepOn(nil, nil, nil, runBut(newRun(1), do)), impl.ErrForm)
		}
	}
	// as many as a list may have are no program, vault or world, which is another fault
	most := impl.MaxList
	wantNoRun(t, "the most statements", impl.Begin(slices.Repeat(prog("log"), most), nil, nil, 1), impl.ErrForm)
	wantNoRun(t, "the most secrets", impl.Begin(nil, manySecrets(most), nil, 1), impl.ErrForm)
	wantNoRun(t, "the most ticks", impl.Begin(nil, nil, slices.Repeat([]impl.Tick{timeGoes()}, most), 1), impl.ErrForm)
}

// What is handed in is not changed, nor what stands behind it in the same memory, and nothing is kept.
func TestRunsStayAsTheyAre(t *testing.T) {
	v, w := fourSecrets(), []impl.Tick{says(1, "word: "), hide(0), says(2, "word: "), timeGoes()}
	log, trace, said, in := []byte("sent ****\n"), []byte("<1 pass word: \n"), []byte("so far"), []byte("pass word: ")
	given := func() impl.Run {
		r := someRun()
		r.Log, r.Trace, r.Said, r.Seats[1].In = unsafe.String(&log[0], len(log)), unsafe.String(&trace[0], len(trace)), unsafe.String(&said[0], len(said)), unsafe.String(&in[0], len(in))
		// memory behind the lists, in which nothing may be put
		r.Vars = append(r.Vars, impl.Var{Name: "behind", Lab: lab("b", 9)})[:len(r.Vars)]
		r.Seats = append(r.Seats, impl.Seat{In: "behind"})[:len(r.Seats)]
		return r
	}
	r := given()
	for _, line := range []string{`set a "x" $p`, `set zz $m`, `set b`, "secret p bob", "secret aa ann", "secret z none", `say 1 $p`, `say 0 "x"`, "say 2 $p", "wait 1 word a 9", "wait 1 zz q 9", "wait 2 word zz 9", `log $p`, "if a alpha 3", "if p x 3", "goto 7", "end 9"} {
		for range 2 {
			p := prog(line)
			want := stepped(p, v, w, r)
			got := impl.StepOn(p, v, w, r)
			wantRun(t, line, got, want)
			spoilRun(&got.Run)
			wantRun(t, line+", by a later call", impl.StepOn(p, v, w, r), want)
			all := impl.RunAll(p, v, w, 40)
			way := steppedOn(p, v, w, 40)
			wantRun(t, line+", as a whole", all, way[len(way)-1])
			spoilRun(&all.Run)
			begun := impl.Begin(p, v, w, 5).Run
			spoilRun(&begun)
			wantRun(t, "a new one", impl.Begin(p, v, w, 5), newRun(5))
			if !slices.EqualFunc(p, prog(line), stmtsAlike) || !slices.Equal(v, fourSecrets()) || !slices.Equal(w, []impl.Tick{says(1, "word: "), hide(0), says(2, "word: "), timeGoes()}) {
				t.Fatalf("%s: what was handed in has changed", line)
			}
			behind := r.Vars[:len(r.Vars)+1][len(r.Vars)]
			if !runsAlike(r, someRun()) || behind.Name != "behind" || !alike(behind.Lab, lab("b", 9)) || r.Seats[:4][3].In != "behind" {
				t.Fatalf("%s: what was handed in has changed: %+v", line, r)
			}
		}
	}
	vars, parts := someVars(), []impl.Part{variable("m"), cut("p", 1, 9), text("x")}
	for range 3 {
		got := impl.Eval(vars, parts)
		wantLab(t, "a later call", got, labs(manyLab(20), lab("ush", 1), lab("x", 0)))
		spoil(got.Lab.Marks)
		is := impl.VarOf(vars, "m")
		if !alike(is, manyLab(20)) {
			t.Errorf("a later call: %+v", is)
		}
		spoil(is.Marks)
		for _, name := range []string{"m", "twelveletter"} {
			spoil(impl.Eval(vars, []impl.Part{variable(name)}).Lab.Marks)
			spoil(impl.Eval(vars, []impl.Part{cut(name, 0, 200)}).Lab.Marks)
		}
	}
	if !varsAlike(vars, someVars()) || !slices.Equal(parts, []impl.Part{variable("m"), cut("p", 1, 9), text("x")}) {
		t.Error("what was handed in has changed")
	}
	if string(log) != "sent ****\n" || string(trace) != "<1 pass word: \n" || string(said) != "so far" || string(in) != "pass word: " {
		t.Error("what was handed in has changed")
	}
}

// textsOfRun are all texts of a run, but for those of one byte or none.
func textsOfRun(r impl.Run) []string {
	l := []string{r.Log, r.Trace, r.Said}
	for _, one := range r.Vars {
		l = append(l, one.Name, one.Lab.Text)
	}
	for _, s := range r.Seats {
		l = append(l, s.In, s.Out.Text)
	}
	return slices.DeleteFunc(l, func(t string) bool { return len(t) < 2 })
}

// marksIn are all lists of marks of a run.
func marksIn(r impl.Run) [][]int64 {
	var l [][]int64
	for _, one := range r.Vars {
		l = append(l, one.Lab.Marks)
	}
	for _, s := range r.Seats {
		l = append(l, s.Out.Marks)
	}
	return l
}

// wantNew checks that a run shares no memory with these texts, and none within itself, but for what it tells anew.
func wantNew(t *testing.T, what string, r impl.Run, given []string) {
	t.Helper()
	for _, got := range textsOfRun(r) {
		for _, other := range given {
			if len(other) > 1 && shares(got, other) {
				t.Errorf("%s: %q shares memory with %q", what, got, other)
			}
		}
	}
	all := marksIn(r)
	for i, marks := range all {
		spoil(marks)
		for j, other := range all {
			if i != j && slices.Contains(other[:cap(other)], -7) {
				t.Errorf("%s: the lists %d and %d share memory", what, i, j)
			}
		}
		clear(marks[:cap(marks)])
	}
}

// An answer shares no memory with what was handed in, and no two lists of it share any.
func TestRunsAreNew(t *testing.T) {
	v, w := fourSecrets(), []impl.Tick{says(1, "word: "), says(0, "some more: "), hide(0)}
	for i, line := range []string{`set a $p`, `set zz $m`, `set b $a`, `set twelveletter $twelveletter`, `set mm "word"`, "secret p bob", "secret aa ann", "secret zz twelveletter", "secret zz nobody", `say 1 $p`, `say 0 "xyz"`, "say 2 $p", "wait 1 word aa 9", "wait 1 pass*: a 9", "wait 1 zz q 9", "wait 2 word zz 9", `log $p`, `log "abc"`, "if a alpha 3", "if p x 3", "goto 7", "end 9"} {
		p := prog(line)
		r := someRun()
		given := append(textsOfRun(r), textsIn(p[0])...)
		for _, secret := range v {
			given = append(given, secret.Name, secret.Word, secret.Prompt)
		}
		for _, tick := range w {
			given = append(given, tick.Text)
		}
		first, second := impl.StepOn(p, v, w, r), impl.StepOn(p, v, w, r)
		want := runCopy(first.Run)
		wantNew(t, line, second.Run, given)
		spoilRun(&second.Run)
		wantRun(t, line+", of two answers", first, want)
		all := impl.RunAll(prog(line, line, "set a $q", "set b $a $a", "wait 0 some q 9", "set c $q"), v, w, 50)
		wantNew(t, line+" and more", all.Run, given)
		if !runsAlike(r, someRun()) {
			t.Fatalf("%d %s: what was handed in has changed", i, line)
		}
	}
	r, vars := someRun(), someVars()
	seen := impl.SeenOf(r)
	for _, got := range []string{seen.Log, seen.Trace, seen.Said, impl.VarOf(vars, "p").Text, impl.VarOf(vars, "m").Text, impl.Eval(vars, []impl.Part{variable("m")}).Lab.Text, impl.Eval(vars, []impl.Part{cut("p", 0, 4)}).Lab.Text} {
		for _, other := range append(textsOfRun(r), vars[1].Lab.Text, vars[3].Lab.Text) {
			if shares(got, other) {
				t.Errorf("%q shares memory with %q", got, other)
			}
		}
	}
	begun := impl.Begin(nil, nil, nil, 1).Run
	spoilRun(&begun)
	wantRun(t, "a new one", impl.Begin(nil, nil, nil, 1), newRun(1))
}

// Runs that go on at the same time do not get in each other's way: each is ended by its own exit.
func TestRunsAtTheSameTime(t *testing.T) {
	var all sync.WaitGroup
	for n := range 8 {
		all.Go(func() {
			r := rand.New(rand.NewSource(int64(n)))
			for range 100 {
				p, v, w, fuel := liveCase(r)
				way := steppedOn(p, v, w, fuel)
				wantRun(t, "at the same time", impl.RunAll(p, v, w, fuel), way[len(way)-1])
			}
		})
	}
	all.Wait()
}

// The longest runs come to their end, and in time.
func TestLongRuns(t *testing.T) {
	most := slices.Repeat([]string{"set a $b $b $b $b $b $b"}, 39)
	for what, lines := range map[string][]string{
		"of many parts":  append(most, "goto 0"),
		"of one":         {"goto 0"},
		"of words":       {"secret a twelveletter", "set b $a[0:6] $a[6:12]", "set c $b $a $b", "goto 0"},
		"of no waiting":  {"wait 0 a*b*c*d*e*f*g*h q 0"},
		"of looks":       {"set a \"x\"", "if a y 0", "goto 0"},
		"of many cuts":   {"set b \"0123456789012345678901234567\"", "set b $b $b[1:30]", "set b $b $b[1:200] $c", "set c $b[0:33]", "goto 3"},
		"of empty lines": {"wait 0 zz q 1", "goto 0"},
	} {
		inTime(t, what, func() {
			got := impl.RunAll(prog(lines...), fourSecrets(), nil, 99999)
			if got.Code != impl.OK || got.Run.Exit != impl.ExFuel || got.Run.Steps != 99999 || got.Run.Fuel != 0 {
				t.Errorf("%s: code %d, exit %d, %d steps", what, got.Code, got.Run.Exit, got.Run.Steps)
			}
		})
	}
}

// spoilRun writes over all memory of a run, behind the ends of its lists, too.
func spoilRun(r *impl.Run) {
	for _, marks := range marksIn(*r) {
		spoil(marks)
	}
	vars, seats := r.Vars[:cap(r.Vars)], r.Seats[:cap(r.Seats)]
	for i := range vars {
		vars[i] = impl.Var{Name: "spoilt", Lab: lab("spoilt", 3)}
	}
	for i := range seats {
		seats[i] = impl.Seat{In: "spoilt", Asked: 99}
	}
}
