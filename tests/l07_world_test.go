package tests

import (
	"bytes"
	"fmt"
	"math"
	"math/rand"
	"regexp"
	"slices"
	"strconv"
	"strings"
	"sync"
	"testing"
	"unsafe"

	"loop.example/g00752/impl"
)

// tickKinds are the kinds of ticks, told in order.
var tickKinds = []int64{impl.TkSays, impl.TkShow, impl.TkHide, impl.TkOver, impl.TkTime}

// noTickKinds are numbers that are no kinds of ticks.
var noTickKinds = []int64{math.MinInt64, -(1 << 32), -5, -1, 0, 6, 7, 8, 256, 257, 261, 1 << 32, 1<<32 + 1, 1<<32 + 5, math.MaxInt64}

// says, show, hide, over and timeGoes are ticks.
func says(seat int64, t string) impl.Tick {
	return impl.Tick{Kind: impl.TkSays, Seat: seat, Text: t}
}

func show(seat int64) impl.Tick {
	return impl.Tick{Kind: impl.TkShow, Seat: seat}
}

func hide(seat int64) impl.Tick {
	return impl.Tick{Kind: impl.TkHide, Seat: seat}
}

func over(seat int64) impl.Tick {
	return impl.Tick{Kind: impl.TkOver, Seat: seat}
}

func timeGoes() impl.Tick {
	return impl.Tick{Kind: impl.TkTime}
}

// saidRight is all bytes that a text that is said may have.
func saidRight() string {
	return fromTo(' ', '~') + `"`
}

// saidTexts are texts that may be said.
func saidTexts() []string {
	l := []string{
		"", " ", "  ", "a", "a ", " a", "  a  b  ", "pass word: ", "0", "1 ", " 2", "00", "-1", "time", "says 1 x", "show 0", `"`, `""`, `"a b"`, `\`, `\n`, "$q", "*", "?", "!", "~", ".",
		strings.Repeat("a", 59), strings.Repeat("a", 60), strings.Repeat(" ", 60), strings.Repeat("~", 60), strings.Repeat("a", 59) + " ", " " + strings.Repeat("a", 59),
	}
	for all := saidRight(); len(all) > 0; {
		n := min(60, len(all))
		l = append(l, all[:n])
		all = all[n:]
	}
	return l
}

// rightTick is a right tick, and its line.
type rightTick struct {
	tick impl.Tick
	line string
}

// rightTicks are right ticks with their lines.
func rightTicks() []rightTick {
	l := []rightTick{
		{timeGoes(), "time\n"},
		{show(0), "show 0\n"},
		{show(1), "show 1\n"},
		{show(2), "show 2\n"},
		{hide(0), "hide 0\n"},
		{hide(1), "hide 1\n"},
		{hide(2), "hide 2\n"},
		{over(0), "over 0\n"},
		{over(1), "over 1\n"},
		{over(2), "over 2\n"},
		{says(0, ""), "says 0 \n"},
		{says(1, "pass word: "), "says 1 pass word: \n"},
		{says(2, " "), "says 2  \n"},
	}
	for i, t := range saidTexts() {
		l = append(l,
			rightTick{says(int64(i%3), t), "says " + []string{"0", "1", "2"}[i%3] + " " + t + "\n"},
			rightTick{says(int64((i+1)%3), t), "says " + []string{"1", "2", "0"}[i%3] + " " + t + "\n"})
	}
	return l
}

// wrongTicks are ticks that are not right, by what is wrong with them.
func wrongTicks() map[string]impl.Tick {
	l := map[string]impl.Tick{"zero": {}}
	for _, kind := range noTickKinds {
		for seat := range int64(3) {
			at := fmt.Sprintf("kind %d at %d", kind, seat)
			l[at] = impl.Tick{Kind: kind, Seat: seat}
			l[at+" with a text"] = impl.Tick{Kind: kind, Seat: seat, Text: "a"}
		}
	}
	for _, kind := range tickKinds {
		for _, seat := range noSeats {
			l[fmt.Sprintf("kind %d at %d", kind, seat)] = impl.Tick{Kind: kind, Seat: seat}
		}
	}
	for _, seat := range []int64{1, 2} {
		l["time at "+strconv.FormatInt(seat, 10)] = impl.Tick{Kind: impl.TkTime, Seat: seat}
	}
	for _, kind := range tickKinds[1:] {
		for i, t := range []string{" ", "a", "0", "time", "\x00", "\n", strings.Repeat("a", 60), strings.Repeat("a", impl.MaxBytes+1)} {
			for seat := range int64(3) {
				l[fmt.Sprintf("kind %d at %d with the text %d", kind, seat, i)] = impl.Tick{Kind: kind, Seat: seat, Text: t}
			}
		}
	}
	for _, n := range []int{61, 62, 120, 121, 255, 256, 257, 316, impl.MaxBytes, impl.MaxBytes + 1, 1<<16 + 1} {
		l["a text of "+strconv.Itoa(n)] = says(1, strings.Repeat("a", n))
		l["blanks, "+strconv.Itoa(n)] = says(1, strings.Repeat(" ", n))
	}
	for c := range 256 {
		if c >= 32 && c <= 126 {
			continue
		}
		for _, t := range []string{"", "a", strings.Repeat("~", 59)} {
			l[fmt.Sprintf("the byte %d behind %d", c, len(t))] = says(0, t+string([]byte{byte(c)}))
			l[fmt.Sprintf("the byte %d ahead of %d", c, len(t))] = says(0, string([]byte{byte(c)})+t)
		}
	}
	return l
}

// tickIsRight tells, without asking the program, whether a tick is right.
func tickIsRight(t impl.Tick) bool {
	switch t.Kind {
	case 1:
		return t.Seat >= 0 && t.Seat <= 2 && len(t.Text) <= 60 && onlyOf(t.Text, saidRight())
	case 2, 3, 4:
		return t.Seat >= 0 && t.Seat <= 2 && t.Text == ""
	case 5:
		return t.Seat == 0 && t.Text == ""
	}
	return false
}

// tickIs is what the lines of ticks are, as a pattern of the library.
var tickIs = regexp.MustCompile(`\A(?:(says) ([0-2]) ([ -~]{0,60})|(show|hide|over) ([0-2])|(time))\n\z`)

// tickIn is, told without asking the program, the tick of which a text is the line, if there is one.
func tickIn(line string) (impl.Tick, bool) {
	found := tickIs.FindStringSubmatch(line)
	if found == nil {
		return impl.Tick{}, false
	}
	for i, word := range []string{"says", "show", "hide", "over", "time"} {
		if found[1]+found[4]+found[6] == word {
			seat, _ := strconv.Atoi(found[2] + found[5])
			return impl.Tick{Kind: int64(i + 1), Seat: int64(seat), Text: found[3]}, true
		}
	}
	return impl.Tick{}, false
}

// worldIn is, told without asking the program, the world of which a text is the text, if there is one.
func worldIn(lines string) ([]impl.Tick, bool) {
	var world []impl.Tick
	for line := range strings.Lines(lines) {
		tick, right := tickIn(line)
		if !right || len(world) == 60 {
			return nil, false
		}
		world = append(world, tick)
	}
	return world, true
}

// wantWorld checks that a text is read as it must be, which is told without asking the program.
func wantWorld(t *testing.T, lines string) {
	t.Helper()
	want, right := worldIn(lines)
	got := impl.WorldRead(lines)
	switch {
	case len(lines) > impl.MaxBytes:
		wantNoWorld(t, lines, got, impl.ErrSize)
	case !right:
		wantNoWorld(t, lines, got, impl.ErrSyntax)
	case got.Code != impl.OK || !slices.Equal(got.World, want) || impl.WorldText(got.World) != lines:
		t.Errorf("%q: %+v, want %+v", lines, got, want)
	}
}

// wantNoWorld checks that a code was told, and beside it no world.
func wantNoWorld(t *testing.T, what string, got impl.WorldOut, code int64) {
	t.Helper()
	if got.Code != code || len(got.World) != 0 {
		t.Errorf("%.300q: %+v, want code %d and no world", what, got, code)
	}
}

// tickFrom is a right tick, each kind as often.
func tickFrom(r *rand.Rand) impl.Tick {
	kind := tickKinds[r.Intn(len(tickKinds))]
	switch kind {
	case impl.TkSays:
		return says(int64(r.Intn(3)), bytesFrom(r, saidRight(), r.Intn(61)))
	case impl.TkTime:
		return timeGoes()
	}
	return impl.Tick{Kind: kind, Seat: int64(r.Intn(3))}
}

// worldFrom is a right world of n ticks.
func worldFrom(r *rand.Rand, n int) []impl.Tick {
	var world []impl.Tick
	for range n {
		world = append(world, tickFrom(r))
	}
	return world
}

// someWorld is n of the right ticks, from one of them on, and their text.
func someWorld(from int, n int) ([]impl.Tick, string) {
	var world []impl.Tick
	lines, some := "", rightTicks()
	for i := range n {
		next := some[(from+i)%len(some)]
		world, lines = append(world, next.tick), lines+next.line
	}
	return world, lines
}

func TestConstantsOfChapterEight(t *testing.T) {
	if impl.MaxTicks != 60 {
		t.Error("a limit is not the document's")
	}
	for i, kind := range tickKinds {
		if kind != int64(i+1) {
			t.Errorf("the kind of tick %d is %d", i+1, kind)
		}
	}
}

func TestTickRight(t *testing.T) {
	for _, c := range rightTicks() {
		if !impl.TickRight(c.tick) {
			t.Errorf("%+v is right", c.tick)
		}
	}
	for what, wrong := range wrongTicks() {
		if impl.TickRight(wrong) {
			t.Errorf("not right: %s", what)
		}
	}
}

func TestTickRightBySeat(t *testing.T) {
	for seat := int64(-300); seat <= 300; seat++ {
		for _, kind := range tickKinds {
			want := seat >= 0 && seat < impl.MaxSeats
			if kind == impl.TkTime {
				want = seat == 0
			}
			if got := impl.TickRight(impl.Tick{Kind: kind, Seat: seat}); got != want {
				t.Errorf("kind %d at %d: %v", kind, seat, got)
			}
		}
		if got := impl.TickRight(says(seat, "a")); got != (seat >= 0 && seat < impl.MaxSeats) {
			t.Errorf("says at %d: %v", seat, got)
		}
	}
}

func TestTickRightByText(t *testing.T) {
	for n := range 400 {
		for _, kind := range tickKinds {
			tick := impl.Tick{Kind: kind, Text: strings.Repeat("a", n)}
			want := n == 0 || kind == impl.TkSays && n <= 60
			if got := impl.TickRight(tick); got != want {
				t.Errorf("kind %d with %d bytes: %v", kind, n, got)
			}
		}
	}
	for c := range 256 {
		for _, around := range []string{"", "a", strings.Repeat(" ", 29)} {
			tick := says(2, around+string([]byte{byte(c)})+around)
			if got := impl.TickRight(tick); got != (c >= 32 && c <= 126) {
				t.Errorf("the byte %d: %v", c, got)
			}
		}
	}
}

// A tick is right just where it is told without asking the program, whatever is in its fields.
func TestTickRightWhateverItHas(t *testing.T) {
	texts := []string{"", " ", "a", "\x1f", "\x7f", "\n", "ä", strings.Repeat("a", 60), strings.Repeat("a", 61)}
	for _, kind := range append(noTickKinds, tickKinds...) {
		for _, seat := range append([]int64{0, 1, 2}, noSeats...) {
			for _, said := range texts {
				tick := impl.Tick{Kind: kind, Seat: seat, Text: said}
				want := tickIsRight(tick)
				if got := impl.TickRight(tick); got != want || impl.WorldRight([]impl.Tick{tick}) != want || (impl.WorldText([]impl.Tick{tick}) != "") != want {
					t.Errorf("%+v: %v, want %v", tick, got, want)
				}
			}
		}
	}
}

func TestWorldRight(t *testing.T) {
	if !impl.WorldRight(nil) || !impl.WorldRight([]impl.Tick{}) {
		t.Error("the empty world is right")
	}
	for n := range 450 {
		world, _ := someWorld(n, n)
		if got := impl.WorldRight(world); got != (n <= 60) {
			t.Errorf("a world of %d ticks: %v", n, got)
		}
	}
	for place := range 60 {
		world := slices.Repeat([]impl.Tick{timeGoes()}, 60)
		for _, wrong := range []impl.Tick{{}, {Kind: 6}, show(3), hide(-1), says(0, "\n"), says(0, strings.Repeat("a", 61)), {Kind: impl.TkTime, Seat: 1}, {Kind: impl.TkOver, Text: "a"}} {
			world[place] = wrong
			for _, l := range [][]impl.Tick{world, world[:place+1], world[place:], world[place : place+1]} {
				if impl.WorldRight(l) || impl.WorldText(l) != "" {
					t.Errorf("%+v at %d of %d is not right", wrong, place, len(l))
				}
			}
		}
	}
}

func TestWorldText(t *testing.T) {
	if got := impl.WorldText(nil) + impl.WorldText([]impl.Tick{}); got != "" {
		t.Errorf("the empty world: %q", got)
	}
	for _, c := range rightTicks() {
		if got := impl.WorldText([]impl.Tick{c.tick}); got != c.line {
			t.Errorf("%+v: %q, want %q", c.tick, got, c.line)
		}
	}
	for n := range 61 {
		for from := range rightTicks() {
			world, want := someWorld(from, n)
			if got := impl.WorldText(world); got != want {
				t.Fatalf("%+v: %q, want %q", world, got, want)
			}
		}
	}
	for what, wrong := range wrongTicks() {
		for _, world := range [][]impl.Tick{{wrong}, {timeGoes(), wrong}, {wrong, show(1)}} {
			if got := impl.WorldText(world); got != "" {
				t.Errorf("%s: %q", what, got)
			}
		}
	}
	for _, n := range []int{61, 62, 120, 256, 257, 316, impl.MaxList} {
		if got := impl.WorldText(slices.Repeat([]impl.Tick{timeGoes()}, n)); got != "" {
			t.Errorf("%d ticks have the text %q", n, got)
		}
	}
}

// The longest text that a world has can be handed in: each right world comes back.
func TestLongestWorlds(t *testing.T) {
	world := slices.Repeat([]impl.Tick{says(2, strings.Repeat("~", 60))}, 60)
	lines := impl.WorldText(world)
	if lines != strings.Repeat("says 2 "+strings.Repeat("~", 60)+"\n", 60) || len(lines) > impl.MaxBytes {
		t.Errorf("the text has %d bytes", len(lines))
	}
	if got := impl.WorldRead(lines); got.Code != impl.OK || !slices.Equal(got.World, world) {
		t.Errorf("code %d, %d ticks", got.Code, len(got.World))
	}
}

func TestWorldRead(t *testing.T) {
	if got := impl.WorldRead(""); got.Code != impl.OK || len(got.World) != 0 {
		t.Errorf("the empty text: %+v", got)
	}
	for _, c := range rightTicks() {
		got := impl.WorldRead(c.line)
		if got.Code != impl.OK || !slices.Equal(got.World, []impl.Tick{c.tick}) {
			t.Errorf("%q: %+v, want %+v", c.line, got, c.tick)
		}
	}
	for n := range 61 {
		for from := 0; from < len(rightTicks()); from += 3 {
			want, lines := someWorld(from, n)
			got := impl.WorldRead(lines)
			if got.Code != impl.OK || !slices.Equal(got.World, want) {
				t.Fatalf("%q: %+v, want %+v", lines, got, want)
			}
			if n == 0 {
				continue
			}
			for _, wrong := range []string{lines[:len(lines)-1], lines + "\n", "\n" + lines, lines + " ", lines + " \n", lines + "time", lines + "time \n", lines + "boom\n", lines + "\x00\n", lines + "says 1\n", lines[:len(lines)-1] + "\r\n", " " + lines, "q\n" + lines, "time" + lines} {
				wantNoWorld(t, wrong, impl.WorldRead(wrong), impl.ErrSyntax)
			}
		}
	}
}

func TestWorldReadFaults(t *testing.T) {
	wrong := []string{
		"\n", "\n\n", " ", " \n", "  \n", "\r\n", "\x00", "\x00\n", "\t\n", ".\n", "1\n", "0\n", " 1\n", "q\n", "boom\n", "boom 1\n", "boom 1 x\n", "say 1 x\n", "saysx 1 x\n", "Says 1 x\n", "SAYS 1 x\n", "says: 1 x\n", "set 1\n", "log\n", "end 0\n",
		"time", "time\n\n", "\ntime\n", "time\n\ntime\n", "time\ntime", "time \n", "time  \n", " time\n", "time 0\n", "time 1\n", "time 0 \n", "time x\n", "time  x\n", "times\n", "tim\n", "Time\n", "TIME\n", "time\r\n", "time\rtime\n", "time;time\n", "time time\n", "time\\ntime\n", "time\t\n", "time\x00\n", "time\u2028time\n", "time\u0085time\n", "\ufefftime\n",
		"show\n", "show \n", "show  1\n", " show 1\n", "show 1 \n", "show 1  \n", "show 1 x\n", "show 1 1\n", "show 3\n", "show -1\n", "show -0\n", "show +1\n", "show 01\n", "show 00\n", "show 1.\n", "show 1.0\n", "show 0x1\n", "show 1_\n", "show a\n", "show x 1\n", "show1\n", "show\t1\n", "show\u00a01\n", "show 1\t\n", "show ١\n", "show 10\n", "show 256\n", "show 4294967297\n", "show 18446744073709551617\n", "show 1", "show 1\n\n", "shows 1\n", "sho 1\n", "show 1;\n",
		"hide\n", "hide \n", "hide  1\n", "hide 1 \n", "hide 1 x\n", "hide 3\n", "hide -1\n", "hide 01\n", "hide +1\n", "hide a\n", "hide", "hide 2", "hide1\n", "hides 1\n", "hid 1\n", "Hide 1\n",
		"over\n", "over \n", "over  1\n", "over 1 \n", "over 1 x\n", "over 3\n", "over -1\n", "over 02\n", "over +2\n", "over a\n", "over", "over 2", "over2\n", "overs 1\n", "ove 1\n", "Over 1\n",
		"says\n", "says \n", "says  \n", "says   \n", "says 1\n", "says 2\n", "says 1", "says 1 ", "says 1 x", "says  1 x\n", " says 1 x\n", "says x\n", "says x y\n", "says 1x y\n", "says 1,x\n", "says1 x\n", "says 3 x\n", "says 3 \n", "says -1 x\n", "says -0 x\n", "says +1 x\n", "says 01 x\n", "says 00 x\n", "says 1. x\n", "says 0x1 x\n", "says 256 x\n", "says 4294967296 x\n", "says 18446744073709551616 x\n",
		"says\t1 x\n", "says 1\tx\n", "says 1 x\ty\n", "says 1 x\r\n", "says 1 \x1f\n", "says 1 \x7f\n", "says 1 \x80\n", "says 1 \xff\n", "says 1 ä\n", "says 1 \x00\n", "says 1 a\x00b\n", "says 1 x\ny\n", "says 1 \n\n", "says 1\n x\n", "says\n1 x\n",
		"says 1 " + strings.Repeat("a", 61) + "\n", "says 1 " + strings.Repeat(" ", 61) + "\n", "says 1 " + strings.Repeat("a", 60) + " \n", "says 1 " + strings.Repeat("a", 256) + "\n", "says 1 " + strings.Repeat("a", 316) + "\n", "says 1 " + strings.Repeat("a", impl.MaxBytes-8) + "\n",
		strings.Repeat(" ", impl.MaxBytes), strings.Repeat("\n", impl.MaxBytes), strings.Repeat("time\n", impl.MaxBytes/5), strings.Repeat("a", impl.MaxBytes-1) + "\n",
	}
	for _, lines := range wrong {
		if _, right := worldIn(lines); right {
			t.Errorf("%q is read", lines)
		}
		wantNoWorld(t, lines, impl.WorldRead(lines), impl.ErrSyntax)
		wantWorld(t, "time\n"+lines+"show 1\n")
		wantWorld(t, "says 0 \n"+lines)
		wantWorld(t, lines+"over 2\n")
	}
}

func TestWorldReadUpToMaxTicks(t *testing.T) {
	for _, line := range []string{"time\n", "show 1\n", "says 2 \n", "says 0 " + strings.Repeat("a", 60) + "\n"} {
		for n := range 400 {
			lines := strings.Repeat(line, n)
			wantWorld(t, lines)
			got := impl.WorldRead(lines)
			if want := n <= 60; (got.Code == impl.OK) != want || len(lines) <= impl.MaxBytes && !want && got.Code != impl.ErrSyntax {
				t.Errorf("%d lines %q: code %d", n, line, got.Code)
			}
			if got.Code == impl.OK && len(got.World) != n {
				t.Errorf("%d lines %q: %d ticks", n, line, len(got.World))
			}
		}
	}
	right := strings.Repeat("time\n", 60)
	for place := range 60 {
		for _, wrong := range []string{"", " ", "boom", "time ", " time", "time 0", "show 3", "time\r", "says 1", "says 1 \x7f"} {
			lines := right[:5*place] + wrong + "\n" + right[5*place+5:]
			wantNoWorld(t, lines, impl.WorldRead(lines), impl.ErrSyntax)
		}
		without := right[:5*place+4] + right[5*place+5:]
		wantNoWorld(t, without, impl.WorldRead(without), impl.ErrSyntax)
		twice := right[:5*place] + "\n" + right[5*place:]
		wantNoWorld(t, twice, impl.WorldRead(twice), impl.ErrSyntax)
	}
}

// Each seat is read of the digit alone with which it is written.
func TestWorldReadNumbers(t *testing.T) {
	ways := []string{"%d", "+%d", "-%d", "0%d", "00%d", "%d0", "%d.0", "%d.", "%d_", "0x%d", "%de0", " %d", "%d ", "\t%d", "%d\n", "$%d", "(%d)", `"%d"`, "%d,"}
	for n := range 300 {
		for _, way := range ways {
			digits := fmt.Sprintf(way, n)
			for _, line := range []string{"show @\n", "hide @\n", "over @\n", "says @ x\n", "says @ \n", "time\nsays @ 1\nshow 0\n"} {
				written := strings.ReplaceAll(line, "@", digits)
				wantWorld(t, written)
				read := impl.WorldRead(written).Code == impl.OK
				// of says a blank more is one of its text
				if way == "%d" && read != (n < 3) || way != "%d" && way != "%d " && read {
					t.Errorf("%q is read: %v", written, read)
				}
			}
		}
	}
}

// Blanks stand one between all, and nowhere else but in a text.
func TestWorldReadBlanks(t *testing.T) {
	for _, c := range rightTicks() {
		line := strings.TrimSuffix(c.line, "\n")
		for _, other := range []string{" " + line, "  " + line, line + " ", line + "  ", line + "\t", line + "\r", line + "\x00", line + ".", line + `"`, line + "0", "\n" + line, line + "\n"} {
			wantWorld(t, other)
			wantWorld(t, other+"\n")
			if c.tick.Kind != impl.TkSays {
				wantNoWorld(t, other, impl.WorldRead(other+"\n"), impl.ErrSyntax)
			}
		}
		for i := range len(line) {
			if line[i] != ' ' {
				continue
			}
			for _, between := range []string{"", "  ", "\t", "\n", "\x00", " \t", "_", "\u00a0", "   ", `" "`} {
				wantWorld(t, line[:i]+between+line[i+1:]+"\n")
			}
			if i == 4 {
				wantNoWorld(t, line, impl.WorldRead(line[:i]+"  "+line[i+1:]+"\n"), impl.ErrSyntax)
				wantNoWorld(t, line, impl.WorldRead(line[:i]+line[i+1:]+"\n"), impl.ErrSyntax)
			}
		}
	}
}

// Promise 8: a right world comes back from its text.
func TestWorldsComeBack(t *testing.T) {
	r := rand.New(rand.NewSource(8))
	for range 2000 {
		world := worldFrom(r, r.Intn(61))
		if !impl.WorldRight(world) {
			t.Fatalf("%+v is right", world)
		}
		lines := impl.WorldText(world)
		got := impl.WorldRead(lines)
		if got.Code != impl.OK || !slices.Equal(got.World, world) {
			t.Fatalf("%+v: %q: %+v", world, lines, got)
		}
		if strings.Count(lines, "\n") != len(world) {
			t.Fatalf("%d ticks have the text %q", len(world), lines)
		}
		wantWorld(t, lines)
	}
}

// Of each text that is read, what was read has that text; each other one is refused.
func TestWorldsThatAreReadHaveThatText(t *testing.T) {
	r := rand.New(rand.NewSource(88))
	some, right, wrong := ` 0123456789+-_\aesvz"AZ~!`+"\n\n\t\x00\x7f\x1f\xff", 0, 0
	for range 20000 {
		lines := impl.WorldText(worldFrom(r, 1+r.Intn(4)))
		for range 1 + r.Intn(2) {
			lines = edited(r, lines, some)
		}
		wantWorld(t, lines)
		if impl.WorldRead(lines).Code == impl.OK {
			right++
		} else {
			wrong++
		}
	}
	if right < 2000 || wrong < 2000 {
		t.Errorf("%d texts were read, and %d were not", right, wrong)
	}
	for range 1000 {
		lines := impl.WorldText(worldFrom(r, 55+r.Intn(6)))
		wantWorld(t, lines)
		wantWorld(t, edited(r, lines, some))
		wantWorld(t, lines+impl.WorldText(worldFrom(r, r.Intn(8))))
	}
}

// All short texts behind a first word are read as they must be.
func TestShortTextsOfWorldsAreRead(t *testing.T) {
	for n := range 6 {
		for _, rest := range textsOf(" 023\nx", n) {
			for _, word := range []string{"says", "show", "hide", "over", "time", ""} {
				wantWorld(t, word+rest)
				wantWorld(t, word+rest+"\n")
			}
		}
	}
	for n := range 4 {
		for _, rest := range textsOf(" 01-+\n\x1f\x7f", n) {
			wantWorld(t, "says 1"+rest+"\n")
			wantWorld(t, "says 1 x"+rest+"\n")
			wantWorld(t, "time\n"+rest+"\ntime\n")
		}
	}
}

// seatsToTry are right seats of all kinds.
func seatsToTry() []impl.Seat {
	return []impl.Seat{{}, impl.SeatNew(), {Over: true}, {Echo: true, Over: true}, {In: "pass wo", Asked: 4}, {In: "word: ", Asked: 15, Over: true}, {Out: manyLab(200)}, someSeat(), {Echo: true, In: manyBytes(60), Asked: 2, Out: manyLab(7)}}
}

func TestTickDo(t *testing.T) {
	v := fourSecrets() // ann at 1 `word: `, anna at 2 `*`, bob at 0 `*:`, twelveletter at 1
	for _, s := range seatsToTry() {
		for n := range int64(impl.MaxSeats) {
			what := fmt.Sprintf("%+v at %d, ", s, n)
			wantSeat(t, what+"show", impl.TickDo(s, n, v, show(n)), seatBut(s, func(s *impl.Seat) { s.Echo = true }))
			wantSeat(t, what+"hide", impl.TickDo(s, n, v, hide(n)), seatBut(s, func(s *impl.Seat) { s.Echo = false }))
			wantSeat(t, what+"over", impl.TickDo(s, n, v, over(n)), seatBut(s, func(s *impl.Seat) { s.Over = true }))
			wantSeat(t, what+"time", impl.TickDo(s, n, v, timeGoes()), s)
			wantSeat(t, what+"time, no vault", impl.TickDo(s, n, nil, timeGoes()), s)
			for _, said := range []string{"", " ", "word: ", "pass word: ", "rd: ", "x", ":", "x:", `"`, strings.Repeat("a", 60)} {
				want := seatBut(s, func(s *impl.Seat) {
					s.In += said
					s.Asked |= marksAsked(s.In, n, v)
				})
				wantSeat(t, what+strconv.Quote(said), impl.TickDo(s, n, v, says(n, said)), want)
				want.Asked = s.Asked
				wantSeat(t, what+strconv.Quote(said)+", no vault", impl.TickDo(s, n, nil, says(n, said)), want)
			}
		}
	}
}

// What is said is asked with at that seat alone.
func TestTickDoAsks(t *testing.T) {
	v := fourSecrets()
	for n, want := range []int64{0, 1, 2} {
		got := impl.TickDo(impl.Seat{}, int64(n), v, says(int64(n), "pass word: "))
		wantSeat(t, "at "+strconv.Itoa(n), got, impl.Seat{In: "pass word: ", Asked: want})
	}
	half := impl.TickDo(impl.Seat{}, 1, v, says(1, "pass wo"))
	wantSeat(t, "half of it", half, impl.Seat{In: "pass wo"})
	wantSeat(t, "the rest", impl.TickDo(half.Seat, 1, v, says(1, "rd: ")), impl.Seat{In: "pass word: ", Asked: 1})
	wantSeat(t, "a colon at 0", impl.TickDo(impl.Seat{Asked: 1}, 0, v, says(0, ":")), impl.Seat{In: ":", Asked: 5})
}

// What was said once it was over is heard all the same: the ticks alone tell what happens.
func TestTickDoOneBehindTheOther(t *testing.T) {
	v := fourSecrets()
	s := impl.SeatNew()
	for _, step := range []struct {
		tick impl.Tick
		want impl.Seat
	}{
		{timeGoes(), impl.Seat{Echo: true}},
		{says(1, "word: "), impl.Seat{Echo: true, In: "word: ", Asked: 1}},
		{hide(1), impl.Seat{In: "word: ", Asked: 1}},
		{hide(1), impl.Seat{In: "word: ", Asked: 1}},
		{says(1, "x"), impl.Seat{In: "word: x", Asked: 1}},
		{over(1), impl.Seat{Over: true, In: "word: x", Asked: 1}},
		{timeGoes(), impl.Seat{Over: true, In: "word: x", Asked: 1}},
		{show(1), impl.Seat{Echo: true, Over: true, In: "word: x", Asked: 1}},
		{over(1), impl.Seat{Echo: true, Over: true, In: "word: x", Asked: 1}},
		{says(1, "y"), impl.Seat{Echo: true, Over: true, In: "word: xy", Asked: 1}},
		{hide(1), impl.Seat{Over: true, In: "word: xy", Asked: 1}},
	} {
		got := impl.TickDo(s, 1, v, step.tick)
		wantSeat(t, fmt.Sprintf("%+v", step.tick), got, step.want)
		s = got.Seat
	}
}

// So much is said that it no longer fits in: it is refused, as Hear refuses it.
func TestTickDoUpToMaxIn(t *testing.T) {
	v := []impl.Secret{{Name: "a", Word: "a", Prompt: "zz"}}
	for n := range impl.MaxIn + 1 {
		s := impl.Seat{Echo: true, In: manyBytes(n), Asked: 2, Out: manyLab(3)}
		for more := range 61 {
			got := impl.TickDo(s, 0, v, says(0, strings.Repeat("a", more)))
			if n+more > 120 {
				wantNoSeat(t, strconv.Itoa(more)+" behind "+strconv.Itoa(n), got, impl.ErrFull)
				continue
			}
			wantSeat(t, strconv.Itoa(more)+" behind "+strconv.Itoa(n), got, seatBut(s, func(s *impl.Seat) { s.In += strings.Repeat("a", more) }))
		}
	}
	for _, tick := range []impl.Tick{show(0), hide(0), over(0), timeGoes(), says(0, "")} {
		if got := impl.TickDo(fullSeat(), 0, nil, tick); got.Code != impl.OK || got.Seat.In != fullSeat().In {
			t.Errorf("%+v where no more fits in: %+v", tick, got)
		}
	}
}

// ticksAt are right ticks of each kind, for one seat.
func ticksAt(n int64) []impl.Tick {
	return []impl.Tick{says(n, "word: "), says(n, ""), says(n, strings.Repeat("a", 60)), show(n), hide(n), over(n), timeGoes()}
}

// Each ground alone, and all together.
func TestTickDoFaults(t *testing.T) {
	v := fourSecrets()
	for what, wrong := range wrongSeats() {
		for n := range int64(impl.MaxSeats) {
			for _, tick := range ticksAt(n) {
				wantNoSeat(t, fmt.Sprintf("%s, %+v", what, tick), impl.TickDo(wrong, n, v, tick), impl.ErrForm)
			}
		}
	}
	for what, wrong := range wrongVaults() {
		code := int64(impl.ErrForm)
		if len(wrong) > impl.MaxList {
			code = impl.ErrSize
		}
		for _, tick := range ticksAt(1) {
			wantNoSeat(t, fmt.Sprintf("%s, %+v", what, tick), impl.TickDo(impl.Seat{}, 1, wrong, tick), code)
		}
	}
	for what, wrong := range wrongTicks() {
		for _, n := range []int64{0, 1, 2, wrong.Seat} {
			for _, s := range []impl.Seat{{}, someSeat(), fullSeat()} {
				wantNoSeat(t, what, impl.TickDo(s, n, v, wrong), impl.ErrForm)
			}
		}
	}
	for _, n := range noSeats {
		for seat := range int64(impl.MaxSeats) {
			for _, tick := range append(ticksAt(seat), ticksAt(n)...) {
				for _, s := range []impl.Seat{{}, someSeat(), fullSeat()} {
					wantNoSeat(t, fmt.Sprintf("%+v at %d", tick, n), impl.TickDo(s, n, v, tick), impl.ErrForm)
					wantNoSeat(t, fmt.Sprintf("%+v at %d, no vault", tick, n), impl.TickDo(s, n, nil, tick), impl.ErrForm)
				}
			}
		}
	}
	wantNoSeat(t, "nothing is right", impl.TickDo(impl.Seat{Asked: 16}, -1, manySecrets(5), impl.Tick{Kind: 6, Seat: 3}), impl.ErrForm)
}

// A tick of one seat is none of another, but time goes by at each.
func TestTickDoAtAnotherSeat(t *testing.T) {
	v := fourSecrets()
	for n := range int64(impl.MaxSeats) {
		for seat := range int64(impl.MaxSeats) {
			for _, tick := range ticksAt(seat) {
				for _, s := range []impl.Seat{{}, impl.SeatNew(), someSeat(), fullSeat()} {
					what := fmt.Sprintf("%+v at %d", tick, n)
					got := impl.TickDo(s, n, v, tick)
					switch {
					case tick.Kind == impl.TkTime:
						wantSeat(t, what, got, s)
					case seat != n:
						wantNoSeat(t, what, got, impl.ErrForm)
					case got.Code != impl.OK && got.Code != impl.ErrFull:
						t.Errorf("%s: %+v", what, got)
					}
				}
			}
		}
	}
}

// What is not right is told ahead of what does not fit in, and what is too large ahead of both.
func TestTickDoTellsTheFirstFault(t *testing.T) {
	v, full, most := fourSecrets(), fullSeat(), says(1, strings.Repeat("a", 60))
	wantNoSeat(t, "it does not fit in", impl.TickDo(full, 1, v, most), impl.ErrFull)
	wantNoSeat(t, "nor at such a seat", impl.TickDo(full, 2, v, most), impl.ErrForm)
	wantNoSeat(t, "nor at a seat that is none", impl.TickDo(full, 3, v, says(3, "a")), impl.ErrForm)
	wantNoSeat(t, "nor with such a vault", impl.TickDo(full, 1, manySecrets(5), most), impl.ErrForm)
	wantNoSeat(t, "nor with so long a text", impl.TickDo(full, 1, v, says(1, strings.Repeat("a", 61))), impl.ErrForm)
	wantNoSeat(t, "a text too long to be handed in is a field here", impl.TickDo(full, 1, v, says(1, strings.Repeat("a", impl.MaxBytes+1))), impl.ErrForm)
	full.Asked = 16
	wantNoSeat(t, "nor in what is not right", impl.TickDo(full, 1, v, most), impl.ErrForm)
}

// Ticks over many seats and vaults, each held against chapter 6.
func TestTicksAreDoneAsChapterSixTells(t *testing.T) {
	r := rand.New(rand.NewSource(86))
	done, refused, full := 0, 0, 0
	for range 20000 {
		v := vaultFrom(r, r.Intn(impl.MaxSecrets+1))
		s := impl.Seat{Echo: r.Intn(2) == 0, Over: r.Intn(2) == 0, In: bytesFrom(r, "ab: ", r.Intn(121)), Asked: int64(r.Intn(16)), Out: manyLab(r.Intn(201))}
		n, tick := int64(r.Intn(impl.MaxSeats)), tickFrom(r)
		if tick.Kind == impl.TkSays && r.Intn(2) == 0 {
			tick.Text = bytesFrom(r, "ab: ", r.Intn(61))
		}
		got := impl.TickDo(s, n, v, tick)
		what := fmt.Sprintf("%+v at %d by %+v", tick, n, v)
		switch {
		case tick.Kind == impl.TkTime:
			wantSeat(t, what, got, s)
		case tick.Seat != n:
			refused++
			wantNoSeat(t, what, got, impl.ErrForm)
		case tick.Kind == impl.TkSays && len(s.In)+len(tick.Text) > 120:
			full++
			wantNoSeat(t, what, got, impl.ErrFull)
		case tick.Kind == impl.TkSays:
			done++
			wantSeat(t, what, got, impl.Hear(s, n, v, tick.Text).Seat)
		case tick.Kind == impl.TkOver:
			wantSeat(t, what, got, seatBut(s, func(s *impl.Seat) { s.Over = true }))
		default:
			wantSeat(t, what, got, impl.Turn(s, tick.Kind == impl.TkShow))
		}
		if got.Code == impl.OK && !impl.SeatRight(got.Seat) {
			t.Fatalf("%s: a right seat stays right: %+v", what, got)
		}
	}
	if done < 500 || refused < 500 || full < 100 {
		t.Errorf("%d done, %d refused, %d full", done, refused, full)
	}
}

// What happens does not hang on the letters of the words: only on their shape.
func TestTicksKnowOfNoWord(t *testing.T) {
	r := rand.New(rand.NewSource(87))
	for range 300 {
		v := vaultFrom(r, 1+r.Intn(impl.MaxSecrets))
		s := impl.Seat{Echo: r.Intn(2) == 0, In: manyBytes(r.Intn(60)), Asked: int64(r.Intn(16)), Out: manyLab(r.Intn(150))}
		tick := tickFrom(r)
		want := impl.TickDo(s, tick.Seat, v, tick)
		for turn := range int64(26) {
			wantSeat(t, fmt.Sprintf("%+v with a twin", tick), impl.TickDo(s, tick.Seat, impl.Twin(v, turn), tick), want.Seat)
		}
	}
}

// A text, or a list, that is too large is refused ahead of all else, by each call that takes one.
func TestTooLargeForWorldsIsRefused(t *testing.T) {
	for _, n := range []int{impl.MaxBytes + 1, 2 * impl.MaxBytes, 1 << 20} {
		for _, some := range []string{"a", "\n", " ", "time\n", "says 1 x\n"} {
			large := strings.Repeat(some, n)[:n]
			wantNoWorld(t, "a text of "+strconv.Itoa(n), impl.WorldRead(large), impl.ErrSize)
			wantNoWorld(t, "a text of MaxBytes", impl.WorldRead(large[:impl.MaxBytes]), impl.ErrSyntax)
		}
	}
	for _, n := range []int{impl.MaxList, impl.MaxList + 1, 2 * impl.MaxList, 1 << 16} {
		for _, tick := range []impl.Tick{{}, timeGoes()} {
			large := slices.Repeat([]impl.Tick{tick}, n)
			if impl.WorldRight(large) || impl.WorldText(large) != "" {
				t.Errorf("%d ticks are no world", n)
			}
		}
	}
	for _, n := range []int{impl.MaxList + 1, 2 * impl.MaxList, 17576} {
		large := manySecrets(n)
		for _, tick := range append(ticksAt(0), impl.Tick{}, show(3), says(0, strings.Repeat("a", impl.MaxBytes+1))) {
			for _, s := range []impl.Seat{{}, {Asked: 16}, fullSeat()} {
				for _, seat := range []int64{0, 1, -1, 3} {
					wantNoSeat(t, "a vault of "+strconv.Itoa(n), impl.TickDo(s, seat, large, tick), impl.ErrSize)
				}
			}
		}
	}
	// as many as a list may have are no vault, which is another fault
	wantNoSeat(t, "the most of a list", impl.TickDo(impl.Seat{}, 0, manySecrets(impl.MaxList), show(0)), impl.ErrForm)
}

// What is handed in is not changed, nor what stands behind it in the same memory, and nothing is kept.
func TestWorldsStayAsTheyAre(t *testing.T) {
	said, lines, in := []byte("word: "), []byte("says 1 word: \nhide 2\ntime\n"), []byte("pass ")
	marks, vault := marksOf(60), fourSecrets()
	memory := []impl.Tick{says(1, unsafe.String(&said[0], len(said))), hide(2), timeGoes(), {Kind: 9, Seat: 9, Text: "behind"}}
	want := []impl.Tick{says(1, "word: "), hide(2), timeGoes(), {Kind: 9, Seat: 9, Text: "behind"}}
	s := impl.Seat{Asked: 8, In: unsafe.String(&in[0], len(in)), Out: impl.Lab{Text: manyBytes(20), Marks: marks[:20]}}
	for range 3 {
		if !impl.WorldRight(memory[:3]) || impl.WorldRight(memory) || !impl.TickRight(memory[0]) || impl.TickRight(memory[3]) {
			t.Error("a later call answers otherwise")
		}
		if got := impl.WorldText(memory[:3]); got != "says 1 word: \nhide 2\ntime\n" || impl.WorldText(memory) != "" {
			t.Errorf("a later call: %q", got)
		}
		read := impl.WorldRead(unsafe.String(&lines[0], len(lines)))
		if read.Code != impl.OK || !slices.Equal(read.World, want[:3]) {
			t.Errorf("a later call: %+v", read)
		}
		spoilWorld(read.World)
		wantNoWorld(t, "a later call", impl.WorldRead("time"), impl.ErrSyntax)
		for i, after := range []impl.Seat{{In: "pass word: ", Asked: 9}, {In: "pass ", Asked: 8}, {In: "pass ", Asked: 8}} {
			after.Out = manyLab(20)
			n := memory[i].Seat
			got := impl.TickDo(s, n, vault[:2], memory[i])
			wantSeat(t, "a later call", got, after)
			spoil(got.Seat.Out.Marks)
		}
		wantNoSeat(t, "a later call", impl.TickDo(s, 0, vault[:2], memory[0]), impl.ErrForm)
	}
	if !slices.Equal(memory, want) || string(said) != "word: " || !bytes.Equal(lines, []byte("says 1 word: \nhide 2\ntime\n")) {
		t.Errorf("what was handed in has changed: %+v, %q", memory, lines)
	}
	if !slices.Equal(marks, marksOf(60)) || !slices.Equal(vault, fourSecrets()) || string(in) != "pass " {
		t.Error("what was handed in has changed")
	}
	if !seatsAlike(s, impl.Seat{In: "pass ", Asked: 8, Out: manyLab(20)}) {
		t.Errorf("what was handed in has changed: %+v", s)
	}
}

// An answer shares no memory with what was handed in, nor with another answer.
func TestWorldsAreNew(t *testing.T) {
	for _, n := range []int{1, 2, 7, 60} {
		for from := range rightTicks() {
			given, _ := someWorld(from, n)
			lines := impl.WorldText(given)
			if shares(lines, impl.WorldText(given)) {
				t.Fatalf("two texts %q share memory", lines)
			}
			first, second := impl.WorldRead(lines).World, impl.WorldRead(lines).World
			for i := range first {
				for _, other := range []string{lines, second[i].Text, given[i].Text} {
					if len(first[i].Text) > 1 && shares(first[i].Text, other) {
						t.Fatalf("%q shares memory with %q", first[i].Text, other)
					}
				}
				if shares(lines, given[i].Text) {
					t.Fatalf("%q shares memory with a tick", lines)
				}
			}
			spoilWorld(second)
			if !slices.Equal(first, given) || !slices.Equal(impl.WorldRead(lines).World, given) {
				t.Fatalf("%q: two answers share memory", lines)
			}
		}
	}
}

// The seat that is answered shares no memory with the one that was handed in, nor with the tick, nor with another answer.
func TestSeatsOfTicksAreNew(t *testing.T) {
	v := fourSecrets()
	for _, given := range []impl.Seat{{In: "pass word: ", Asked: 9, Out: manyLab(50)}, {Out: manyLab(2)}, {In: "xy"}, someSeat(), fullSeat()} {
		for _, tick := range []impl.Tick{says(1, "more of it"), says(1, ""), show(1), hide(1), over(1), timeGoes()} {
			s := seatCopy(given)
			first, second := impl.TickDo(s, 1, v, tick).Seat, impl.TickDo(s, 1, v, tick).Seat
			want := seatCopy(first)
			for _, got := range []string{first.In, first.Out.Text} {
				for _, other := range []string{s.In, s.Out.Text, tick.Text, second.In, second.Out.Text} {
					if len(got) > 1 && shares(got, other) {
						t.Errorf("%+v: %q shares memory with %q", tick, got, other)
					}
				}
			}
			spoil(second.Out.Marks)
			if !seatsAlike(first, want) || !seatsAlike(impl.TickDo(s, 1, v, tick).Seat, want) {
				t.Errorf("%+v: two answers share memory", tick)
			}
			if !seatsAlike(s, given) {
				t.Fatalf("%+v: an answer shares memory with what was handed in", tick)
			}
		}
	}
}

// Calls that go on at the same time do not get in each other's way: no channel is that of two.
func TestWorldsAtTheSameTime(t *testing.T) {
	var all sync.WaitGroup
	for n := range 8 {
		all.Go(func() {
			r := rand.New(rand.NewSource(int64(n)))
			for range 200 {
				world := worldFrom(r, r.Intn(61))
				if got := impl.WorldRead(impl.WorldText(world)); got.Code != impl.OK || !slices.Equal(got.World, world) {
					t.Errorf("%+v: %+v", world, got)
				}
			}
		})
	}
	all.Wait()
}

// spoilWorld writes over all memory of a world, behind its end, too.
func spoilWorld(l []impl.Tick) {
	l = l[:cap(l)]
	for i := range l {
		l[i] = impl.Tick{Kind: 7, Seat: 7, Text: "spoilt"}
	}
}
