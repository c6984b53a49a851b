package tests

import (
	"bytes"
	"math/rand"
	"slices"
	"strings"
	"testing"
	"time"
	"unsafe"

	"loop.example/g00752/impl"
)

// textsOf are all texts of at most n of these bytes, the shorter ones first.
func textsOf(some string, n int) []string {
	l := []string{""}
	for from := 0; from < len(l); from++ {
		if len(l[from]) < n {
			for i := range len(some) {
				l = append(l, l[from]+some[i:i+1])
			}
		}
	}
	return l
}

// globIsRight tells it without asking the program: a backslash at the end has none behind it,
// if the backslashes there are an odd number.
func globIsRight(p string) bool {
	slashes := len(p) - len(strings.TrimRight(p, "\\"))
	return len(p) >= 1 && len(p) <= 40 && slashes%2 == 0
}

// endsOf tells, without asking the program, at which places pieces end that begin at first,
// last, or between, and go with a right glob: byte by byte of the glob, all places at once.
func endsOf(p string, text string, first int, last int) []bool {
	now := make([]bool, len(text)+1)
	for at := first; at <= last; at++ {
		now[at] = true
	}
	for i := 0; i < len(p); i++ {
		next := make([]bool, len(text)+1)
		star, one := p[i] == '*', p[i] == '?'
		if p[i] == '\\' {
			i++
		}
		for at, here := range now {
			if star {
				next[at] = here || at > 0 && next[at-1]
			} else if here && at < len(text) && (one || text[at] == p[i]) {
				next[at+1] = true
			}
		}
		now = next
	}
	return now
}

// lastOf is the last place that is told, or -1.
func lastOf(places []bool) int {
	for at := len(places) - 1; at >= 0; at-- {
		if places[at] {
			return at
		}
	}
	return -1
}

// wantGlob checks what all calls tell of a right glob and a text of at most MaxBytes bytes.
func wantGlob(t *testing.T, p string, text string) {
	t.Helper()
	end := len(text)
	all, some := endsOf(p, text, 0, 0), endsOf(p, text, 0, end)
	if got := impl.GlobAll(p, text); got != all[end] {
		t.Errorf("GlobAll of %q and %.60q: %v", p, text, got)
	}
	if got := impl.GlobEnds(p, text); got != some[end] {
		t.Errorf("GlobEnds of %q and %.60q: %v", p, text, got)
	}
	got := impl.GlobFind(p, text)
	if lastOf(some) < 0 {
		if got != (impl.Span{}) {
			t.Errorf("GlobFind of %q in %.60q: %+v, but there is none", p, text, got)
		}
		return
	}
	from, to := int(got.From), int(got.To)
	if !got.Found || from < 0 || from > to || to > end {
		t.Errorf("GlobFind of %q in %.60q: %+v", p, text, got)
		return
	}
	if lastOf(endsOf(p, text, 0, from-1)) >= 0 {
		t.Errorf("GlobFind of %q in %.60q: %+v, but one begins ahead of it", p, text, got)
	}
	if longest := lastOf(endsOf(p, text, from, from)); longest != to {
		t.Errorf("GlobFind of %q in %.60q: %+v, but the longest ends at %d", p, text, got, longest)
	}
}

// wantNoGlob checks that all calls refuse a glob or a text.
func wantNoGlob(t *testing.T, p string, text string) {
	t.Helper()
	if impl.GlobAll(p, text) || impl.GlobEnds(p, text) {
		t.Errorf("%.60q and %d bytes go together", p, len(text))
	}
	if got := impl.GlobFind(p, text); got != (impl.Span{}) {
		t.Errorf("%.60q is found in %d bytes: %+v", p, len(text), got)
	}
}

// wrongGlobs are texts that are no globs.
func wrongGlobs() []string {
	most := strings.Repeat("a", impl.MaxGlob)
	return []string{
		"", "\\", "a\\", "*\\", "?\\", "\\\\\\", "\\a\\", "\\*\\", "a\\\\b\\", strings.Repeat("\\", 39),
		most[1:] + "\\", most + "a", most + "\\", most + "*", strings.Repeat("*", 41), strings.Repeat("\\", 41), strings.Repeat("\\", 42),
		strings.Repeat("\\a", 20) + "a", strings.Repeat("\\a", 21), strings.Repeat("\\*", 20) + "\\",
		strings.Repeat("*", impl.MaxBytes), strings.Repeat("*", impl.MaxBytes+1), strings.Repeat("\\", impl.MaxBytes),
	}
}

func TestConstantsOfChapterFour(t *testing.T) {
	if impl.MaxGlob != 40 {
		t.Error("a limit is not the document's")
	}
}

func TestGlobRight(t *testing.T) {
	for _, p := range []string{
		"a", "*", "?", "\\\\", "\\a", "\\*", "a\\?", "**", "a*?\\\\", "\\\\\\\\", "\x00", "\xff", "ä", "\n", " ", "a\\\\b",
		strings.Repeat("a", 40), strings.Repeat("*", 40), strings.Repeat("?", 40), strings.Repeat("\\", 40),
		strings.Repeat("\\*", 20), strings.Repeat("a", 38) + "\\\\", "a" + strings.Repeat("\\", 38) + "a",
	} {
		if !impl.GlobRight(p) {
			t.Errorf("%q is a glob", p)
		}
	}
	for _, p := range wrongGlobs() {
		if impl.GlobRight(p) {
			t.Errorf("%.60q, of %d bytes, is no glob", p, len(p))
		}
	}
	for b := range 256 {
		one := string([]byte{byte(b)})
		if impl.GlobRight(one) != (b != '\\') || !impl.GlobRight("\\"+one) || impl.GlobRight("\\"+one+"\\") {
			t.Errorf("byte %d as a glob, alone and behind a backslash", b)
		}
	}
	for _, p := range textsOf("a*\\", 6) {
		if got := impl.GlobRight(p); got != globIsRight(p) {
			t.Errorf("GlobRight(%q): %v", p, got)
		}
	}
}

func TestGlobAll(t *testing.T) {
	for _, c := range []struct {
		p, text string
		want    bool
	}{
		{"abc", "abc", true}, {"abc", "abcd", false}, {"abc", "xabc", false}, {"abc", "ab", false}, {"abc", "", false}, {"a", "A", false},
		{"*", "", true}, {"*", "a", true}, {"**", "", true}, {"***", "abc", true}, {"*", "a\nb\x00\xff", true},
		{"?", "", false}, {"?", "a", true}, {"?", "ab", false}, {"?", "ä", false}, {"??", "ä", true}, {"?", "\xff", true}, {"?", "\n", true},
		{"a*c", "ac", true}, {"a*c", "abbc", true}, {"a*c", "abcb", false}, {"a*c", "acc", true}, {"a*", "a", true}, {"*a", "ba", true}, {"*a", "ab", false},
		{"a?c", "ac", false}, {"a?c", "a?c", true}, {"*?", "", false}, {"*?", "a", true}, {"?*", "a", true}, {"?*?", "a", false}, {"?**?", "ab", true},
		{"\\*", "*", true}, {"\\*", "a", false}, {"\\*", "\\*", false}, {"\\?", "?", true}, {"\\?", "a", false}, {"\\\\", "\\", true}, {"\\\\", "\\\\", false},
		{"\\a", "a", true}, {"\\a", "\\a", false}, {"\\\\*", "\\abc", true}, {"\\\\*", "abc", false}, {"\\\\\\*", "\\*", true}, {"\\\\\\*", "\\a", false},
		{"a\\*b*", "a*bc", true}, {"a\\*b*", "axbc", false}, {"*\\**", "a*b", true}, {"*\\**", "ab", false},
		{"*ab*ba*", "aba", false}, {"*ab*ba*", "abba", true}, {"a*b*c", "abcbc", true}, {"a*b*c", "acb", false}, {"*a*a*a", "aa", false}, {"*a*a*a", "baaa", true},
	} {
		if got := impl.GlobAll(c.p, c.text); got != c.want {
			t.Errorf("GlobAll(%q, %q): %v", c.p, c.text, got)
		}
	}
	both := []byte{0, 0}
	for b := range 256 {
		for d := range 256 {
			both[0], both[1] = byte(b), byte(d)
			one, other := string(both[:1]), string(both[1:])
			if impl.GlobAll("\\"+one, other) != (b == d) {
				t.Errorf("a backslash and byte %d, and byte %d", b, d)
			}
			if want := b == d || b == '*' || b == '?'; b != '\\' && impl.GlobAll(one, other) != want {
				t.Errorf("byte %d, and byte %d", b, d)
			}
		}
	}
}

func TestGlobFind(t *testing.T) {
	for _, c := range []struct {
		p, text string
		want    impl.Span
	}{
		{"b", "abcb", impl.Span{From: 1, To: 2, Found: true}},
		{"bc", "abcbc", impl.Span{From: 1, To: 3, Found: true}},
		{"a", "a", impl.Span{From: 0, To: 1, Found: true}},
		{"z", "abc", impl.Span{}},
		{"abcd", "abc", impl.Span{}},
		{"a", "", impl.Span{}},
		{"?", "", impl.Span{}},
		{"*", "", impl.Span{Found: true}},
		{"**", "", impl.Span{Found: true}},
		{"*", "abc", impl.Span{To: 3, Found: true}},
		{"***", "abc", impl.Span{To: 3, Found: true}},
		{"?", "abc", impl.Span{To: 1, Found: true}},
		{"??", "abc", impl.Span{To: 2, Found: true}},
		{"b*d", "abcdxd", impl.Span{From: 1, To: 6, Found: true}},
		{"b*d", "bbdxdx", impl.Span{To: 5, Found: true}},
		{"b*", "abab", impl.Span{From: 1, To: 4, Found: true}},
		{"*b", "abab", impl.Span{To: 4, Found: true}},
		{"*b", "ababa", impl.Span{To: 4, Found: true}},
		{"*b*", "ababa", impl.Span{To: 5, Found: true}},
		{"*z", "abab", impl.Span{}},
		{"b*z", "abab", impl.Span{}},
		{"b*a?", "babbaa", impl.Span{To: 6, Found: true}},
		{"b*a?", "cbabba", impl.Span{From: 1, To: 4, Found: true}},
		{"aab", "aaab", impl.Span{From: 1, To: 4, Found: true}},
		{"a*aab", "xaaaab", impl.Span{From: 1, To: 6, Found: true}},
		{"a?b", "aabb", impl.Span{To: 3, Found: true}},
		{"\\*", "ab*", impl.Span{From: 2, To: 3, Found: true}},
		{"\\?*\\?", "a?b?c", impl.Span{From: 1, To: 4, Found: true}},
		{"\\\\", "a\\\\", impl.Span{From: 1, To: 2, Found: true}},
		{"\xbc", "ü", impl.Span{From: 1, To: 2, Found: true}},
	} {
		if got := impl.GlobFind(c.p, c.text); got != c.want {
			t.Errorf("GlobFind(%q, %q): %+v, want %+v", c.p, c.text, got, c.want)
		}
	}
}

func TestGlobEnds(t *testing.T) {
	for _, c := range []struct {
		p, text string
		want    bool
	}{
		{"word: ", "pass word: ", true}, {"word", "word: ", false}, {"word: ", "word: ", true}, {"word: ", "ord: ", false}, {"c", "abc", true}, {"b", "abc", false},
		{"*", "", true}, {"**", "", true}, {"*", "abc", true}, {"?", "", false}, {"?", "a", true}, {"??", "a", false}, {"a", "", false}, {"*?", "", false},
		{"a*", "bab", true}, {"a*", "bbb", false}, {"*a", "bab", false}, {"*a", "ba", true}, {"b*c", "abcbcx", false}, {"b*c", "abcbc", true}, {"a*b", "aab", true},
		{"a?b", "aaab", true}, {"ab", "abab", true}, {"ab", "aba", false}, {"aa", "aaa", true}, {"b*a?", "babbaab", true},
		{"\\*", "a*", true}, {"\\*", "a", false}, {"\\*", "*a", false}, {"\\\\", "a\\", true}, {"\\?", "a?", true}, {"\\?", "?a", false},
	} {
		if got := impl.GlobEnds(c.p, c.text); got != c.want {
			t.Errorf("GlobEnds(%q, %q): %v", c.p, c.text, got)
		}
	}
}

func TestGlobQuote(t *testing.T) {
	for _, c := range []struct{ text, want string }{
		{"", ""}, {"a", "a"}, {"abc", "abc"}, {"*", "\\*"}, {"?", "\\?"}, {"\\", "\\\\"}, {"a*b", "a\\*b"}, {"\\*", "\\\\\\*"}, {"**", "\\*\\*"},
		{"a?\\*b", "a\\?\\\\\\*b"}, {"ä\xff\x00\n", "ä\xff\x00\n"}, {".|()[]^$", ".|()[]^$"},
		{strings.Repeat("a", 40), strings.Repeat("a", 40)}, {strings.Repeat("a", 41), ""},
		{strings.Repeat("*", 20), strings.Repeat("\\*", 20)}, {strings.Repeat("*", 21), ""},
		{strings.Repeat("?", 20) + "a", ""}, {"a" + strings.Repeat("\\", 20), ""}, {strings.Repeat("*", 40), ""},
		{strings.Repeat("\\", 19) + "ab", strings.Repeat("\\\\", 19) + "ab"}, {strings.Repeat("\\", 19) + "abc", ""},
		{"*" + strings.Repeat("a", 38), "\\*" + strings.Repeat("a", 38)}, {"*" + strings.Repeat("a", 39), ""}, {strings.Repeat("a", 39) + "*", ""},
		{manyBytes(impl.MaxBytes), ""}, {manyBytes(impl.MaxBytes + 1), ""}, {strings.Repeat("*", impl.MaxBytes), ""},
	} {
		if got := impl.GlobQuote(c.text); got != c.want {
			t.Errorf("GlobQuote(%.60q): %q, want %q", c.text, got, c.want)
		}
	}
}

// Promise 4: a text goes with its own glob alone.
func TestTextGoesWithItsOwnGlobAlone(t *testing.T) {
	texts := textsOf("ab*?\\", 4)
	for i, text := range texts {
		glob := impl.GlobQuote(text)
		if impl.GlobRight(glob) != (text != "") {
			t.Errorf("the glob of %q is %q", text, glob)
		}
		for j, other := range texts {
			if got := impl.GlobAll(glob, other); got != (i == j && text != "") {
				t.Errorf("the glob of %q, %q, and %q: %v", text, glob, other, got)
			}
		}
	}
	both := []byte{0, 0}
	for b := range 256 {
		for d := range 256 {
			both[0], both[1] = byte(b), byte(d)
			if impl.GlobAll(impl.GlobQuote(string(both[:1])), string(both[1:])) != (b == d) {
				t.Errorf("the glob of byte %d, and byte %d", b, d)
			}
		}
	}
	for _, text := range []string{strings.Repeat("a", 40), strings.Repeat("*", 20), manyBytes(35), "?" + strings.Repeat("\\", 18) + "xy"} {
		glob := impl.GlobQuote(text)
		if !impl.GlobAll(glob, text) || impl.GlobAll(glob, text+"a") || impl.GlobAll(glob, text[1:]) || impl.GlobAll(glob, "a"+text) {
			t.Errorf("the glob of %q is %q", text, glob)
		}
		for place := range len(text) {
			turned := []byte(text)
			turned[place] ^= 1
			if impl.GlobAll(glob, string(turned)) {
				t.Errorf("the glob of %q goes with another byte at %d", text, place)
			}
		}
	}
}

// Promise 4: what is found goes with the glob, and nothing ahead of it does, and nothing there
// that is longer; here by what the program itself says of each piece.
func TestFoundIsFirstAndLongest(t *testing.T) {
	for _, p := range textsOf("a*?\\", 4) {
		for _, text := range textsOf("ab*", 4) {
			got := impl.GlobFind(p, text)
			want := impl.Span{}
			for from := len(text); from >= 0; from-- {
				for to := from; to <= len(text); to++ {
					if impl.GlobAll(p, text[from:to]) && (!want.Found || from < int(want.From) || to > int(want.To)) {
						want = impl.Span{From: int64(from), To: int64(to), Found: true}
					}
				}
			}
			if got != want {
				t.Errorf("GlobFind(%q, %q): %+v, want %+v", p, text, got, want)
			}
		}
	}
}

// Each short glob of these bytes, with each short text: what all calls tell is what chapter 4 says.
func TestShortGlobsAndTexts(t *testing.T) {
	texts := textsOf("ab*", 4)
	for _, p := range textsOf("ab*?\\", 5) {
		for _, text := range texts {
			if globIsRight(p) {
				wantGlob(t, p, text)
			} else {
				wantNoGlob(t, p, text)
			}
		}
	}
}

// globFrom is a right glob of n bytes, chosen among these.
func globFrom(r *rand.Rand, some string, n int) string {
	p := make([]byte, n)
	for i := range p {
		p[i] = some[r.Intn(len(some))]
	}
	// this leaves no backslash at the end that has none behind it
	if !globIsRight(string(p)) {
		p[n-1] = '*'
	}
	return string(p)
}

// Longer ones, up to the longest glob; the same ones each time.
func TestLongerGlobsAndTexts(t *testing.T) {
	r := rand.New(rand.NewSource(3))
	for _, some := range []string{"ab*", "aab?*", "abc*?\\", "aaaaaaab*?\\", "**a", "ab?", "aaaaaaaa*b"} {
		for range 1500 {
			p := globFrom(r, some, 1+r.Intn(impl.MaxGlob))
			text := make([]byte, r.Intn(60))
			for i := range text {
				text[i] = "aaabbc*\\?"[r.Intn(2+r.Intn(8))]
			}
			wantGlob(t, p, string(text))
		}
	}
}

func TestWrongGlobsAreRefused(t *testing.T) {
	for _, p := range wrongGlobs() {
		for _, text := range []string{"", "a", "\\", "*", p, strings.TrimSuffix(p, "\\"), strings.Repeat("a", 41), strings.Repeat("a", impl.MaxBytes)} {
			wantNoGlob(t, p, text)
		}
	}
}

func TestTooLongTextsAreRefused(t *testing.T) {
	for _, n := range []int{impl.MaxBytes + 1, 2 * impl.MaxBytes} {
		text := strings.Repeat("a", n)
		for _, p := range []string{"*", "?", "a", "a*", "*a", "**", "?*?", "\\a", strings.Repeat("a", 40), "", "\\"} {
			wantNoGlob(t, p, text)
		}
	}
	most := strings.Repeat("a", impl.MaxBytes)
	for _, p := range []string{"*", "a*", "*a", "**", "?*?", "\\a*"} {
		if !impl.GlobAll(p, most) || !impl.GlobEnds(p, most) || impl.GlobFind(p, most) != (impl.Span{To: impl.MaxBytes, Found: true}) {
			t.Errorf("%q goes with a text of the most bytes", p)
		}
	}
	last := most[1:] + "b"
	for _, p := range []string{"b", "?b", strings.Repeat("a", 39) + "b", strings.Repeat("?", 39) + "b"} {
		want := impl.Span{From: int64(impl.MaxBytes - len(p)), To: impl.MaxBytes, Found: true}
		if got := impl.GlobFind(p, last); got != want || !impl.GlobEnds(p, last) || impl.GlobAll(p, last) {
			t.Errorf("%q at the end of a text of the most bytes: %+v", p, got)
		}
	}
}

// inTime fails if a call has not come back long after it should have.
func inTime(t *testing.T, what string, call func()) {
	t.Helper()
	done := make(chan bool)
	go func() {
		defer close(done)
		call()
	}()
	select {
	case <-done:
	case <-time.After(time.Minute):
		t.Fatalf("%s: no answer", what)
	}
}

// Each call comes back, with what is right, for globs of many stars and long texts.
func TestManyStarsAndLongTexts(t *testing.T) {
	globs := []string{
		strings.Repeat("*", 40), strings.Repeat("*a", 20), strings.Repeat("a*", 20), strings.Repeat("*?", 20), strings.Repeat("?*", 20),
		strings.Repeat("*\\a", 13), strings.Repeat("*a", 19) + "*b", strings.Repeat("a*", 19) + "b*", strings.Repeat("*a", 19) + "b", "b" + strings.Repeat("*a", 19),
		strings.Repeat("*ab", 13), strings.Repeat("*aab", 10), strings.Repeat("a", 40), strings.Repeat("a", 39) + "b", strings.Repeat("?", 40),
		"*" + strings.Repeat("a", 39), "*" + strings.Repeat("a", 38) + "b", strings.Repeat("a", 38) + "*b", strings.Repeat("?", 38) + "b*", strings.Repeat("*?", 19) + "*c",
		strings.Repeat("a*", 19) + "\\*", "*" + strings.Repeat("a", 19) + "*" + strings.Repeat("a", 18) + "c",
	}
	texts := []string{
		strings.Repeat("a", impl.MaxBytes), strings.Repeat("a", impl.MaxBytes-1) + "b", "b" + strings.Repeat("a", impl.MaxBytes-1),
		strings.Repeat("ab", impl.MaxBytes/2), strings.Repeat("aab", impl.MaxBytes/3), strings.Repeat("a", 4000) + "b" + strings.Repeat("a", 3999),
		strings.Repeat("*", impl.MaxBytes), manyBytes(impl.MaxBytes), strings.Repeat("a", 39), "",
	}
	for _, p := range globs {
		if !globIsRight(p) {
			t.Fatalf("%q is no glob", p)
		}
		for _, text := range texts {
			inTime(t, p, func() { wantGlob(t, p, text) })
		}
	}
	for _, p := range wrongGlobs() {
		inTime(t, "a wrong glob", func() { wantNoGlob(t, p, texts[0]) })
	}
	for _, text := range texts {
		inTime(t, "GlobQuote", func() { impl.GlobQuote(text) })
	}
}

// What is handed in is not changed, nothing of it is in an answer, and nothing is kept.
func TestGlobsAndTextsStayAsTheyAre(t *testing.T) {
	glob, text := []byte("a*\\?b?*\\*"), []byte("xxabc?bbb*a?b**")
	oldGlob, oldText := bytes.Clone(glob), bytes.Clone(text)
	p, q := unsafe.String(&glob[0], len(glob)), unsafe.String(&text[0], len(text))
	var answers []any
	for range 3 {
		answers = append(answers, impl.GlobRight(p), impl.GlobAll(p, q), impl.GlobFind(p, q), impl.GlobEnds(p, q), impl.GlobQuote(q))
		impl.GlobAll("*b", "ab")
		impl.GlobFind("\\", "ab")
	}
	if !bytes.Equal(glob, oldGlob) || !bytes.Equal(text, oldText) {
		t.Error("what was handed in has changed")
	}
	if !slices.Equal(answers[:5], answers[5:10]) || !slices.Equal(answers[:5], answers[10:]) {
		t.Errorf("a later call answers otherwise: %v", answers)
	}
	for _, some := range []string{"abcdef", "a*b?c\\", "*"} {
		first, second := impl.GlobQuote(some), impl.GlobQuote(some)
		if shares(first, some) || shares(second, some) || shares(first, second) {
			t.Errorf("the glob of %q shares memory", some)
		}
	}
}
