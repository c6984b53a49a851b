package tests

import (
	"bytes"
	"math"
	"math/rand"
	"slices"
	"strconv"
	"strings"
	"testing"
	"unsafe"

	"loop.example/g00752/impl"
)

// alphabet stands twice, so that the letter n places behind one can be looked up behind z, too.
const alphabet = "abcdefghijklmnopqrstuvwxyzabcdefghijklmnopqrstuvwxyz"

// noSeats are numbers that are no places of seats, near the limits and far from them.
var noSeats = []int64{math.MinInt64, math.MinInt64 + 1, -(1 << 32), -3, -2, -1, impl.MaxSeats, impl.MaxSeats + 1, 256, 1 << 32, 1<<32 + 1, math.MaxInt64}

// noTurns are numbers by which no vault can be turned.
var noTurns = []int64{math.MinInt64, math.MinInt64 + 1, -(1 << 32), -26, -25, -1, 26, 27, 52, 256, 260, 1 << 32, 1<<32 + 1, math.MaxInt64}

// fourSecrets is a right vault of the most secrets.
func fourSecrets() []impl.Secret {
	return []impl.Secret{
		{Name: "ann", Seat: 1, Word: "hush", Prompt: "word: "},
		{Name: "anna", Seat: 2, Word: "z", Prompt: "*"},
		{Name: "bob", Seat: 0, Word: "zed", Prompt: "*:"},
		{Name: "twelveletter", Seat: 1, Word: "abcxyzabcxyz", Prompt: "\\*?" + strings.Repeat("p", 37)},
	}
}

// vaultFrom is a right vault of n secrets.
func vaultFrom(r *rand.Rand, n int) []impl.Secret {
	names := map[string]bool{}
	for len(names) < n {
		names[wordFrom(r)] = true
	}
	var v []impl.Secret
	for name := range names {
		v = append(v, impl.Secret{Name: name})
	}
	slices.SortFunc(v, func(a impl.Secret, b impl.Secret) int { return strings.Compare(a.Name, b.Name) })
	for i := range v {
		v[i].Seat, v[i].Word = int64(r.Intn(impl.MaxSeats)), wordFrom(r)
		v[i].Prompt = globFrom(r, "abc: *?\\\x00\xff", 1+r.Intn(impl.MaxGlob))
	}
	return v
}

// wordFrom is a word.
func wordFrom(r *rand.Rand) string {
	word := make([]byte, 1+r.Intn(12))
	for i := range word {
		word[i] = alphabet[r.Intn(26)]
	}
	return string(word)
}

// copyOf is a vault of its own memory, its texts, too.
func copyOf(v []impl.Secret) []impl.Secret {
	var l []impl.Secret
	for _, s := range v {
		l = append(l, impl.Secret{Name: strings.Clone(s.Name), Seat: s.Seat, Word: strings.Clone(s.Word), Prompt: strings.Clone(s.Prompt)})
	}
	return l
}

// vaultBut is a vault with something else done to one of its secrets.
func vaultBut(v []impl.Secret, place int, do func(s *impl.Secret)) []impl.Secret {
	l := copyOf(v)
	do(&l[place])
	return l
}

// noWords are texts that are no words.
func noWords() []string {
	return []string{
		"", " ", "abcdefghijklm", "aaaaaaaaaaaaa", "A", "Z", "aB", "Ab", "a1", "1a", "1", "_", "a_b", "a-b", "a b", " a", "a ", "a\n", "\na", "a\x00", "\x00",
		"`", "{", "ä", "aé", "\xff", "a\xff", "\xc3", "a\xe1", "\xe1a", "\u0061\u0301", "\u0161", "\uff41", "\u0430", "\U0001f600", "abcdefghijkä", "abcdefghijklä", strings.Repeat("ä", 12),
		strings.Repeat("a", 24), strings.Repeat("a", 256), strings.Repeat("a", 257), strings.Repeat("a", 268), manyBytes(12),
		strings.Repeat("a", impl.MaxBytes), strings.Repeat("a", impl.MaxBytes+1), strings.Repeat("a", 1<<16+1),
	}
}

// wrongVaults are lists of secrets that are no vaults, by what is wrong with them.
func wrongVaults() map[string][]impl.Secret {
	l := map[string][]impl.Secret{
		"the zero secret":       {{}},
		"four and one of them":  append(fourSecrets(), fourSecrets()[3]),
		"five secrets":          append(fourSecrets(), impl.Secret{Name: "z", Word: "z", Prompt: "z"}),
		"as many as a list has": manySecrets(impl.MaxList),
		"more than a list has":  manySecrets(impl.MaxList + 1),
	}
	for place := range 4 {
		at := " at " + strconv.Itoa(place)
		for i, word := range noWords() {
			l["name "+strconv.Itoa(i)+at] = vaultBut(fourSecrets(), place, func(s *impl.Secret) { s.Name = word })
			l["word "+strconv.Itoa(i)+at] = vaultBut(fourSecrets(), place, func(s *impl.Secret) { s.Word = word })
		}
		for _, seat := range noSeats {
			l["seat "+strconv.FormatInt(seat, 10)+at] = vaultBut(fourSecrets(), place, func(s *impl.Secret) { s.Seat = seat })
		}
		for i, glob := range wrongGlobs() {
			l["prompt "+strconv.Itoa(i)+at] = vaultBut(fourSecrets(), place, func(s *impl.Secret) { s.Prompt = glob })
		}
		for other := range 4 {
			if other == place {
				continue
			}
			l["the name of "+strconv.Itoa(other)+at] = vaultBut(fourSecrets(), place, func(s *impl.Secret) { s.Name = fourSecrets()[other].Name })
			turned := fourSecrets()
			turned[place], turned[other] = turned[other], turned[place]
			l["the secret of "+strconv.Itoa(other)+at] = turned
		}
	}
	return l
}

// manySecrets is a list of n secrets, each of them right and the names rising: there are too many, and no more is wrong.
func manySecrets(n int) []impl.Secret {
	var l []impl.Secret
	for i := range n {
		name := string([]byte{alphabet[i/26/26%26], alphabet[i/26%26], alphabet[i%26]})
		l = append(l, impl.Secret{Name: name, Word: "a", Prompt: "a"})
	}
	return l
}

func TestConstantsOfChapterFive(t *testing.T) {
	if impl.MaxSecrets != 4 || impl.MaxSeats != 3 {
		t.Error("a limit is not the document's")
	}
}

func TestWordRight(t *testing.T) {
	for n := range 30 {
		for _, letter := range []string{"a", "m", "z"} {
			if got := impl.WordRight(strings.Repeat(letter, n)); got != (n >= 1 && n <= 12) {
				t.Errorf("%d times %s: %v", n, letter, got)
			}
		}
	}
	for _, word := range []string{"a", "z", "zed", "hush", "abcdefghijkl", "nopqrstuvwxy"} {
		if !impl.WordRight(word) {
			t.Errorf("%q is a word", word)
		}
	}
	for _, text := range noWords() {
		if impl.WordRight(text) {
			t.Errorf("%.60q, of %d bytes, is no word", text, len(text))
		}
	}
}

func TestWordRightByteByByte(t *testing.T) {
	for b := range 256 {
		want := strings.IndexByte(alphabet, byte(b)) >= 0
		for _, n := range []int{1, 2, 5, 12} {
			for place := range n {
				word := []byte(alphabet[:n])
				word[place] = byte(b)
				if got := impl.WordRight(string(word)); got != want {
					t.Errorf("byte %d at %d of %d: %v", b, place, n, got)
				}
			}
		}
	}
}

func TestVaultRight(t *testing.T) {
	four := fourSecrets()
	for from := range 5 {
		for to := from; to <= 4; to++ {
			if !impl.VaultRight(four[from:to]) {
				t.Errorf("the secrets from %d to %d are a vault", from, to)
			}
		}
	}
	if !impl.VaultRight(nil) || !impl.VaultRight([]impl.Secret{}) {
		t.Error("no secrets are a vault")
	}
	for place := range four {
		for seat := range int64(impl.MaxSeats) {
			if !impl.VaultRight(vaultBut(four, place, func(s *impl.Secret) { s.Seat = seat })) {
				t.Errorf("seat %d at %d", seat, place)
			}
		}
		for _, word := range []string{"a", "z", strings.Repeat("z", 12)} {
			if !impl.VaultRight(vaultBut(four, place, func(s *impl.Secret) { s.Word = word })) {
				t.Errorf("word %q at %d", word, place)
			}
		}
		for _, glob := range []string{"a", "*", "?", "\\\\", "\n", "\xff", "ä", "\"", strings.Repeat("*", 40), strings.Repeat("\\", 40)} {
			if !impl.VaultRight(vaultBut(four, place, func(s *impl.Secret) { s.Prompt = glob })) {
				t.Errorf("prompt %q at %d", glob, place)
			}
		}
	}
	for what, wrong := range wrongVaults() {
		if impl.VaultRight(wrong) {
			t.Errorf("no vault: %s", what)
		}
	}
	if !impl.VaultRight(manySecrets(4)) || impl.VaultRight(manySecrets(5)) {
		t.Error("four secrets are a vault, five are none")
	}
}

// A secret's own fields are not enough: the names must rise, byte by byte, with no two alike.
func TestNamesOfVaultsRise(t *testing.T) {
	names := []string{"a", "aa", "aaaaaaaaaaaa", "ab", "az", "b", "ba", "z", "zz", "zzzzzzzzzzzz"}
	for i, first := range names {
		for j, second := range names {
			v := []impl.Secret{{Name: first, Word: "a", Prompt: "a"}, {Name: second, Word: "a", Prompt: "a"}}
			if got := impl.VaultRight(v); got != (i < j) {
				t.Errorf("%q ahead of %q: %v", first, second, got)
			}
			for k, third := range names {
				w := append(slices.Clone(v), impl.Secret{Name: third, Word: "a", Prompt: "a"})
				if got := impl.VaultRight(w); got != (i < j && j < k) {
					t.Errorf("%q ahead of %q ahead of %q: %v", first, second, third, got)
				}
			}
		}
	}
}

func TestSecretAt(t *testing.T) {
	four := fourSecrets()
	for from := range 5 {
		for to := from; to <= 4; to++ {
			for i, s := range four {
				want := int64(i - from)
				if i < from || i >= to {
					want = -1
				}
				if got := impl.SecretAt(four[from:to], strings.Clone(s.Name)); got != want {
					t.Errorf("%q in those from %d to %d: %d, want %d", s.Name, from, to, got, want)
				}
			}
		}
	}
	absent := append(noWords(), "an", "annaa", "bo", "bobb", "twelvelette", "hush", "zed", "word: ", "*:", "Ann", "ann ", " ann", "ann\x00", strings.Repeat("ann", impl.MaxBytes))
	for _, name := range absent {
		if got := impl.SecretAt(four, name); got != -1 {
			t.Errorf("%.60q, which is not there: %d", name, got)
		}
		if got := impl.SecretAt(nil, name); got != -1 {
			t.Errorf("%.60q of no secrets: %d", name, got)
		}
	}
	for what, wrong := range wrongVaults() {
		for _, name := range []string{"", "ann", "anna", "bob", "twelveletter", "aaa", "nobody"} {
			if got := impl.SecretAt(wrong, name); got != -1 {
				t.Errorf("%q of what is no vault, %s: %d", name, what, got)
			}
		}
		for _, s := range wrong {
			if got := impl.SecretAt(wrong, s.Name); got != -1 {
				t.Errorf("%.60q of what is no vault, %s: %d", s.Name, what, got)
			}
		}
	}
}

func TestSameShape(t *testing.T) {
	four := fourSecrets()
	for i := range 5 {
		for j := range 5 {
			if got := impl.SameShape(four[:i], fourSecrets()[:j]); got != (i == j) {
				t.Errorf("the first %d, and the first %d: %v", i, j, got)
			}
		}
	}
	if !impl.SameShape(nil, []impl.Secret{}) || !impl.SameShape([]impl.Secret{}, nil) || !impl.SameShape(nil, nil) {
		t.Error("no secrets are of the same shape as none")
	}
	for place, s := range four {
		for what, other := range map[string][]impl.Secret{
			"name":           vaultBut(four, place, func(s *impl.Secret) { s.Name = []string{"ana", "annb", "boc", "twelveletteq"}[place] }),
			"further name":   vaultBut(four, place, func(s *impl.Secret) { s.Name = []string{"anm", "annab", "bobb", "twemveletter"}[place] }),
			"seat":           vaultBut(four, place, func(s *impl.Secret) { s.Seat = (s.Seat + 1) % 3 }),
			"next seat":      vaultBut(four, place, func(s *impl.Secret) { s.Seat = (s.Seat + 2) % 3 }),
			"length of word": vaultBut(four, place, func(s *impl.Secret) { s.Word = strings.Repeat("a", len(s.Word)%12+1) }),
			"long word":      vaultBut(four, place, func(s *impl.Secret) { s.Word = strings.Repeat("a", 12-len(s.Word)/12) }),
			"prompt":         vaultBut(four, place, func(s *impl.Secret) { s.Prompt = "?" + s.Prompt[1:] }),
			"longer prompt":  vaultBut(four, place, func(s *impl.Secret) { s.Prompt = strings.Repeat("*", len(s.Prompt)%40+1) }),
		} {
			if !impl.VaultRight(other) {
				t.Fatalf("another %s at %d is a vault, too", what, place)
			}
			if impl.SameShape(four, other) || impl.SameShape(other, four) || !impl.SameShape(other, copyOf(other)) {
				t.Errorf("another %s at %d", what, place)
			}
		}
		for _, letter := range alphabet[:26] {
			other := vaultBut(four, place, func(s *impl.Secret) { s.Word = strings.Repeat(string(letter), len(s.Word)) })
			if !impl.SameShape(four, other) || !impl.SameShape(other, four) {
				t.Errorf("another word of %d letters at %d", len(s.Word), place)
			}
		}
	}
	for what, wrong := range wrongVaults() {
		if impl.SameShape(wrong, wrong) || impl.SameShape(wrong, copyOf(wrong)) || impl.SameShape(wrong, four) || impl.SameShape(four, wrong) {
			t.Errorf("not both are vaults: %s", what)
		}
		if impl.SameShape(wrong, nil) || impl.SameShape(nil, wrong) {
			t.Errorf("not both are vaults, one has nothing: %s", what)
		}
	}
}

// Secrets of the same shape, but in another order, are no vault, and two vaults that have as many are not alike for that.
func TestSameShapeLooksAtEach(t *testing.T) {
	four := fourSecrets()
	for i := range 4 {
		for j := range 4 {
			if got := impl.SameShape(four[i:i+1], four[j:j+1]); got != (i == j) {
				t.Errorf("%d alone, and %d alone: %v", i, j, got)
			}
			a, b := slices.Delete(copyOf(four), i, i+1), slices.Delete(copyOf(four), j, j+1)
			if got := impl.SameShape(a, b); got != (i == j) {
				t.Errorf("all but %d, and all but %d: %v", i, j, got)
			}
		}
	}
}

func TestTwin(t *testing.T) {
	for n := range int64(26) {
		for letter := range 26 {
			v := []impl.Secret{{Name: "a", Word: alphabet[letter : letter+1], Prompt: "a"}}
			got := impl.Twin(v, n)
			if len(got) != 1 || got[0].Word != alphabet[letter+int(n):letter+int(n)+1] {
				t.Errorf("%s turned on by %d: %+v", v[0].Word, n, got)
			}
		}
		want := fourSecrets()
		for i, s := range want {
			want[i].Word = strings.Map(func(r rune) rune { return rune(alphabet[int(r-'a')+int(n)]) }, s.Word)
		}
		for from := range 5 {
			for to := from; to <= 4; to++ {
				if got := impl.Twin(fourSecrets()[from:to], n); !slices.Equal(got, want[from:to]) {
					t.Errorf("the secrets from %d to %d turned on by %d: %+v", from, to, n, got)
				}
			}
		}
	}
	if got := impl.Twin(fourSecrets(), 1); got[2].Word != "afe" || got[3].Word != "bcdyzabcdyza" || got[0].Word != "ivti" || got[1].Word != "a" {
		t.Errorf("turned on by one: %+v", got)
	}
}

func TestTwinFaults(t *testing.T) {
	for _, n := range noTurns {
		for _, v := range [][]impl.Secret{fourSecrets(), fourSecrets()[:1], nil} {
			if got := impl.Twin(v, n); len(got) != 0 {
				t.Errorf("%d secrets turned on by %d: %+v", len(v), n, got)
			}
		}
	}
	for what, wrong := range wrongVaults() {
		for _, n := range []int64{-1, 0, 1, 25, 26} {
			if got := impl.Twin(wrong, n); len(got) != 0 {
				t.Errorf("what is no vault, %s, turned on by %d: %d secrets", what, n, len(got))
			}
		}
	}
}

func TestVaultMarks(t *testing.T) {
	for n, want := range []int64{0, 1, 3, 7, 15} {
		if got := impl.VaultMarks(fourSecrets()[:n]); got != want {
			t.Errorf("the marks of %d secrets: %d, want %d", n, got, want)
		}
		// the marks go by place, so that other secrets have the same
		if got := impl.VaultMarks(fourSecrets()[4-n:]); got != want {
			t.Errorf("the marks of the last %d secrets: %d, want %d", n, got, want)
		}
	}
	for what, wrong := range wrongVaults() {
		if got := impl.VaultMarks(wrong); got != 0 {
			t.Errorf("the marks of what is no vault, %s: %d", what, got)
		}
	}
}

// Promise 5, its first half: a twin has the same shape; turned on, and on again, it is itself.
func TestTwinsHaveTheSameShape(t *testing.T) {
	r := rand.New(rand.NewSource(5))
	for range 400 {
		v := vaultFrom(r, r.Intn(impl.MaxSecrets+1))
		if !impl.VaultRight(v) {
			t.Fatalf("no vault: %+v", v)
		}
		for n := range int64(26) {
			twin := impl.Twin(v, n)
			if !impl.VaultRight(twin) || !impl.SameShape(v, twin) || !impl.SameShape(twin, v) {
				t.Errorf("%+v turned on by %d is of another shape: %+v", v, n, twin)
			}
			if impl.VaultMarks(twin) != impl.VaultMarks(v) {
				t.Errorf("%+v turned on by %d has other marks", v, n)
			}
			for i, s := range v {
				if impl.SecretAt(twin, s.Name) != int64(i) || (twin[i].Word == s.Word) != (n == 0) {
					t.Errorf("%+v turned on by %d: %+v at %d", v, n, twin[i], i)
				}
			}
			again := impl.Twin(twin, (26-n)%26)
			if !slices.Equal(again, v) {
				t.Errorf("%+v turned on by %d, and on again, is %+v", v, n, again)
			}
		}
	}
}

// Turned on by one again and again a vault comes by all its twins, and then to itself.
func TestTwinsOfTwins(t *testing.T) {
	v := fourSecrets()
	twin := v
	for n := range int64(26) {
		if !slices.Equal(twin, impl.Twin(v, n)) {
			t.Errorf("turned on %d times by one: %+v", n, twin)
		}
		twin = impl.Twin(twin, 1)
	}
	if !slices.Equal(twin, v) {
		t.Errorf("turned on 26 times by one: %+v", twin)
	}
}

// What is handed in is not changed, nor what stands behind it in the same memory, and nothing is kept.
func TestVaultsStayAsTheyAre(t *testing.T) {
	memory := fourSecrets()
	word, name, prompt := []byte("hush"), []byte("ann"), []byte("word: ")
	memory[0].Word = unsafe.String(&word[0], len(word))
	memory[0].Name = unsafe.String(&name[0], len(name))
	memory[0].Prompt = unsafe.String(&prompt[0], len(prompt))
	v, w := memory[:2], memory[2:3]
	for range 3 {
		if !impl.WordRight(v[0].Word) || !impl.VaultRight(v) || impl.SecretAt(v, "anna") != 1 || impl.SecretAt(w, "ann") != -1 {
			t.Error("a later call answers otherwise")
		}
		if impl.SameShape(v, w) || !impl.SameShape(w, w) || impl.VaultMarks(v) != 3 || impl.VaultMarks(w) != 1 {
			t.Error("a later call answers otherwise")
		}
		if got := impl.Twin(v, 1); len(got) != 2 || got[0].Word != "ivti" || got[1].Word != "a" {
			t.Errorf("a later call answers otherwise: %+v", got)
		}
		impl.Twin(v, 26)
		impl.Twin(memory[:0], 1)
		impl.SecretAt(append(copyOf(memory), memory...), "ann")
	}
	if !slices.Equal(memory, fourSecrets()) || !bytes.Equal(word, []byte("hush")) || !bytes.Equal(name, []byte("ann")) || !bytes.Equal(prompt, []byte("word: ")) {
		t.Errorf("what was handed in has changed: %+v", memory)
	}
}

// A twin shares no memory with the vault that it was made of, nor with another twin.
func TestTwinsAreNew(t *testing.T) {
	for n := range int64(26) {
		v := copyOf(fourSecrets())
		first, second := impl.Twin(v, n), impl.Twin(v, n)
		want := copyOf(first)
		for i, s := range v {
			for _, a := range []string{first[i].Name, first[i].Word, first[i].Prompt} {
				for _, b := range []string{s.Name, s.Word, s.Prompt, second[i].Name, second[i].Word, second[i].Prompt} {
					// the runtime keeps one text for each byte, which no one can write to
					if len(a) > 1 && shares(a, b) {
						t.Errorf("%q and %q, turned on by %d, share memory", a, b, n)
					}
				}
			}
		}
		spoilVault(second)
		if !slices.Equal(v, fourSecrets()) || !slices.Equal(first, want) {
			t.Errorf("a twin, turned on by %d, shares memory", n)
		}
		spoilVault(v)
		if !slices.Equal(first, want) {
			t.Errorf("a twin, turned on by %d, shares memory with its vault", n)
		}
		spoilVault(impl.Twin(v[:0], n))
		if !slices.Equal(impl.Twin(fourSecrets(), n), want) {
			t.Errorf("something is kept of a twin turned on by %d", n)
		}
	}
}

// spoilVault writes over all memory of a list of secrets, behind its end, too.
func spoilVault(v []impl.Secret) {
	v = v[:cap(v)]
	for i := range v {
		v[i] = impl.Secret{Name: "spoilt", Seat: 7}
	}
}

// A text or a list that is too large is refused, whatever else is handed in.
func TestTooLargeVaultsAndNamesAreRefused(t *testing.T) {
	for _, n := range []int{impl.MaxList + 1, 2 * impl.MaxList, 17576} {
		large := manySecrets(n)
		if impl.VaultRight(large) || impl.SecretAt(large, "aaa") != -1 || impl.SameShape(large, large) || len(impl.Twin(large, 0)) != 0 || impl.VaultMarks(large) != 0 {
			t.Errorf("a list of %d secrets is no vault", n)
		}
	}
	for _, n := range []int{impl.MaxBytes + 1, 2 * impl.MaxBytes, 1 << 20} {
		large := strings.Repeat("a", n)
		if impl.WordRight(large) || impl.SecretAt(fourSecrets(), large) != -1 || impl.SecretAt(nil, large) != -1 {
			t.Errorf("a text of %d bytes is no word", n)
		}
	}
}
