package tests

import (
	"encoding/binary"
	"hash/crc32"
	"math"
	"strconv"
	"strings"
	"testing"
	"unsafe"

	"loop.example/g00752/impl"
)

const (
	nine80 = "\x80\x80\x80\x80\x80\x80\x80\x80\x80"
	nineFF = "\xff\xff\xff\xff\xff\xff\xff\xff\xff"
)

// manyNumbers are the least and the greatest number, and all that stand near where a byte more is needed.
func manyNumbers() []int64 {
	l := []int64{math.MinInt64, math.MinInt64 + 1, math.MaxInt64 - 1, math.MaxInt64}
	for bit := range 63 {
		for d := int64(-2); d <= 2; d++ {
			l = append(l, int64(1)<<bit+d, -(int64(1)<<bit)+d)
		}
	}
	return l
}

// manyBytes is a text of n bytes, in which all bytes come.
func manyBytes(n int) string {
	b := make([]byte, n)
	for i := range b {
		b[i] = byte(i*7 + i/256)
	}
	return string(b)
}

// sealedBySum puts a text's CRC behind it, by the library's CRC.
func sealedBySum(t string) string {
	return t + string(binary.LittleEndian.AppendUint32(nil, crc32.ChecksumIEEE([]byte(t))))
}

// shares tells whether two texts share memory.
func shares(a string, b string) bool {
	if a == "" || b == "" {
		return false
	}
	first, second := uintptr(unsafe.Pointer(unsafe.StringData(a))), uintptr(unsafe.Pointer(unsafe.StringData(b)))
	return first < second+uintptr(len(b)) && second < first+uintptr(len(a))
}

func TestConstantsOfChapterOne(t *testing.T) {
	got := []int64{
		impl.OK, impl.ErrForm, impl.ErrSize, impl.ErrSyntax, impl.ErrShort, impl.ErrSum, impl.ErrNone,
		impl.ErrThere, impl.ErrRange, impl.ErrFull, impl.ErrState, impl.ErrDenied,
	}
	for want, code := range got {
		if code != int64(want) {
			t.Errorf("code %d is %d", want, code)
		}
	}
	if impl.MaxBytes != 8000 || impl.MaxList != 400 || impl.MaxTime != 1000000 {
		t.Error("a limit is not the document's")
	}
}

func TestPutNumBytes(t *testing.T) {
	for _, c := range []struct {
		n    int64
		want string
	}{
		{0, "\x00"}, {-1, "\x01"}, {1, "\x02"}, {-2, "\x03"},
		{63, "\x7e"}, {-64, "\x7f"}, {64, "\x80\x01"}, {-65, "\x81\x01"},
		{8191, "\xfe\x7f"}, {-8192, "\xff\x7f"}, {8192, "\x80\x80\x01"},
		{math.MaxInt64, "\xfe\xff\xff\xff\xff\xff\xff\xff\xff\x01"},
		{math.MinInt64, nineFF + "\x01"},
	} {
		if got := impl.PutNum(c.n); got != c.want {
			t.Errorf("PutNum(%d): %x, want %x", c.n, got, c.want)
		}
	}
	for _, n := range manyNumbers() {
		if got, want := impl.PutNum(n), string(binary.AppendVarint(nil, n)); got != want {
			t.Errorf("PutNum(%d): %x, want %x", n, got, want)
		}
	}
}

// Promise 1, of numbers.
func TestNumbersComeBack(t *testing.T) {
	for _, n := range manyNumbers() {
		put := impl.PutNum(n)
		for _, ahead := range []string{"", "\x80", "abc"} {
			for _, behind := range []string{"", "\x00", "\xff"} {
				want := impl.NumOut{N: n, At: int64(len(ahead) + len(put))}
				if got := impl.GetNum(ahead+put+behind, int64(len(ahead))); got != want {
					t.Errorf("GetNum of %d behind %x: %+v, want %+v", n, ahead, got, want)
				}
			}
		}
		for cut := range len(put) {
			if got := impl.GetNum(put[:cut], 0); got != (impl.NumOut{Code: impl.ErrShort}) {
				t.Errorf("GetNum of %d bytes of %d: %+v", cut, n, got)
			}
		}
	}
}

// Promise 1: numbers one behind the other are read on from the place that was told.
func TestNumbersInARowComeBack(t *testing.T) {
	row := ""
	for _, n := range manyNumbers() {
		row += impl.PutNum(n)
	}
	at := int64(0)
	for _, n := range manyNumbers() {
		got := impl.GetNum(row, at)
		if got.Code != impl.OK || got.N != n {
			t.Fatalf("at %d: %+v, want %d", at, got, n)
		}
		at = got.At
	}
	if at != int64(len(row)) {
		t.Errorf("the row ends at %d, not %d", at, len(row))
	}
}

func TestGetNumFaults(t *testing.T) {
	most := strings.Repeat("\x00", impl.MaxBytes)
	for _, c := range []struct {
		what string
		text string
		at   int64
		want int64
	}{
		{"the size ahead of all", most + "\x00", -1, impl.ErrSize},
		{"one byte too many", most + "\x00", 0, impl.ErrSize},
		{"below 0", "\x00", -1, impl.ErrForm},
		{"far below 0", "\x00", math.MinInt64, impl.ErrForm},
		{"below 0 of the empty text", "", -1, impl.ErrForm},
		{"the empty text", "", 0, impl.ErrShort},
		{"at the end", "\x00\x00", 2, impl.ErrShort},
		{"behind the end", "\x00\x00", 3, impl.ErrShort},
		{"far behind the end", "\x00\x00", math.MaxInt64, impl.ErrShort},
		{"at the end of the longest", most, impl.MaxBytes, impl.ErrShort},
		{"one byte that goes on", "\x80", 0, impl.ErrShort},
		{"nine bytes that go on", nineFF, 0, impl.ErrShort},
		{"nine bytes of nothing that go on", nine80, 0, impl.ErrShort},
		{"nine bytes that go on, further on", "ab" + nineFF, 2, impl.ErrShort},
		{"0 in two bytes", "\x80\x00", 0, impl.ErrSyntax},
		{"1 in two bytes", "\x82\x00", 0, impl.ErrSyntax},
		{"64 in three bytes", "\x80\x81\x00", 0, impl.ErrSyntax},
		{"0 in ten bytes", nine80 + "\x00", 0, impl.ErrSyntax},
		{"nine bytes' worth in ten", nineFF + "\x00", 0, impl.ErrSyntax},
		{"a tenth byte of 2", nine80 + "\x02", 0, impl.ErrSyntax},
		{"a tenth byte of 127", nineFF + "\x7f", 0, impl.ErrSyntax},
		{"a tenth byte of 128", nine80 + "\x80", 0, impl.ErrSyntax},
		{"a tenth byte of 129", nine80 + "\x81", 0, impl.ErrSyntax},
		{"a tenth byte that goes on", nineFF + "\xff", 0, impl.ErrSyntax},
		{"a tenth byte that goes on, and an eleventh", nine80 + "\x80\x01", 0, impl.ErrSyntax},
	} {
		if got := impl.GetNum(c.text, c.at); got != (impl.NumOut{Code: c.want}) {
			t.Errorf("GetNum, %s: %+v, want code %d and else 0", c.what, got, c.want)
		}
		if got := impl.GetText(c.text, c.at); got != (impl.TextOut{Code: c.want}) {
			t.Errorf("GetText, %s: %+v, want code %d and else 0", c.what, got, c.want)
		}
	}
	if got := impl.GetNum(most, impl.MaxBytes-1); got != (impl.NumOut{At: impl.MaxBytes}) {
		t.Errorf("the last byte of the longest text: %+v", got)
	}
	if got := impl.GetNum(nine80+"\x01", 0); got != (impl.NumOut{N: 1 << 62, At: 10}) {
		t.Errorf("a number of ten bytes: %+v", got)
	}
}

// Each text of at most three bytes of these is a number just where PutNum writes it so.
func TestGetNumReadsWhatPutNumWrites(t *testing.T) {
	some := []string{"\x00", "\x01", "\x02", "\x7f", "\x80", "\x81", "\xff"}
	texts := []string{""}
	for from := 0; from < len(texts); from++ {
		if len(texts[from]) < 3 {
			for _, b := range some {
				texts = append(texts, texts[from]+b)
			}
		}
	}
	for _, text := range texts {
		got := impl.GetNum(text, 0)
		last := strings.IndexFunc(text, func(r rune) bool { return r >= 0 && r < 128 })
		switch {
		case last < 0 && got != (impl.NumOut{Code: impl.ErrShort}):
			t.Errorf("%x: %+v, want ErrShort", text, got)
		case last > 0 && text[last] == 0 && got != (impl.NumOut{Code: impl.ErrSyntax}):
			t.Errorf("%x: %+v, want ErrSyntax", text, got)
		case last == 0 || last > 0 && text[last] != 0:
			if got.Code != impl.OK || got.At != int64(last+1) || impl.PutNum(got.N) != text[:last+1] {
				t.Errorf("%x: %+v", text, got)
			}
		}
	}
}

func TestPutTextBytes(t *testing.T) {
	long := manyBytes(impl.MaxBytes + 1)
	for _, c := range []struct{ text, want string }{
		{"", "\x00"},
		{"ab", "\x04ab"},
		{long[:63], "\x7e" + long[:63]},
		{long[:64], "\x80\x01" + long[:64]},
		{long[:impl.MaxBytes], "\x80\x7d" + long[:impl.MaxBytes]},
		{long, ""},
		{long + long, ""},
	} {
		if got := impl.PutText(c.text); got != c.want {
			t.Errorf("PutText of %d bytes: %d bytes, want %d, or other ones", len(c.text), len(got), len(c.want))
		}
	}
}

// Promise 1, of texts: what is put comes back, as long as all of it is at most MaxBytes bytes.
func TestTextsComeBack(t *testing.T) {
	long := manyBytes(impl.MaxBytes)
	for _, n := range []int{0, 1, 2, 62, 63, 64, 65, 127, 128, 255, 4000, 7900, impl.MaxBytes - 2} {
		put := impl.PutText(long[:n])
		for _, ahead := range []string{"", "\xff", "abc"} {
			for _, behind := range []string{"", "\x80", "xy"} {
				all := ahead + put + behind
				want := impl.TextOut{Text: long[:n], At: int64(len(ahead) + len(put))}
				if len(all) > impl.MaxBytes {
					want = impl.TextOut{Code: impl.ErrSize}
				}
				if got := impl.GetText(all, int64(len(ahead))); got != want {
					t.Errorf("GetText of %d bytes behind %x: code %d at %d", n, ahead, got.Code, got.At)
				}
			}
		}
	}
	for _, n := range []int{impl.MaxBytes - 1, impl.MaxBytes} {
		if got := impl.GetText(impl.PutText(long[:n]), 0); got != (impl.TextOut{Code: impl.ErrSize}) {
			t.Errorf("GetText of more than fits in: code %d at %d", got.Code, got.At)
		}
	}
}

func TestGetTextFaults(t *testing.T) {
	for _, c := range []struct {
		what string
		text string
		at   int64
		want int64
	}{
		{"a length of -1", "\x01abc", 0, impl.ErrSyntax},
		{"the least length", impl.PutNum(math.MinInt64) + "abc", 0, impl.ErrSyntax},
		{"the greatest length", impl.PutNum(math.MaxInt64) + "abc", 0, impl.ErrSyntax},
		{"a length of one more than may be, and a short text", impl.PutNum(impl.MaxBytes+1) + "abc", 0, impl.ErrSyntax},
		{"the greatest length that may be, and a short text", impl.PutNum(impl.MaxBytes) + "abc", 0, impl.ErrShort},
		{"one byte less than told", "\x08abc", 0, impl.ErrShort},
		{"none of those told", "\x02", 0, impl.ErrShort},
		{"none of those told, further on", "abc\x02", 3, impl.ErrShort},
		{"a length of more bytes than needed, and a short text", "\x84\x00a", 0, impl.ErrSyntax},
		{"a length that is not there", "\x04ab", 3, impl.ErrShort},
		{"the size ahead of all", strings.Repeat("\x01", impl.MaxBytes+1), -1, impl.ErrSize},
		{"a place below 0", "\x01", -1, impl.ErrForm},
	} {
		if got := impl.GetText(c.text, c.at); got != (impl.TextOut{Code: c.want}) {
			t.Errorf("GetText, %s: %+v, want code %d and else nothing", c.what, got, c.want)
		}
	}
	if got := impl.GetText("\x06abc", 0); got != (impl.TextOut{Text: "abc", At: 4}) {
		t.Errorf("a text that just ends there: %+v", got)
	}
}

func TestNames(t *testing.T) {
	twenty := "a2345678901234567890"
	for _, name := range []string{"a", "z", "m", "a_9", "a0", "az", "a_", "z__", "ab_cd09", twenty, strings.Repeat("z", 20)} {
		if !impl.NameRight(name) {
			t.Errorf("%q is a name", name)
		}
	}
	wrong := []string{
		"", "_", "_a", "0", "9a", "A", "aA", "aZ", "a-", "a b", " a", "a ", "a\x00", "a\n", "\x00", "ä", "aä", "a\xff", "\xe1",
		twenty + "1", strings.Repeat("a", 21), strings.Repeat("a", impl.MaxBytes), strings.Repeat("a", impl.MaxBytes+1),
	}
	for _, name := range wrong {
		if impl.NameRight(name) {
			t.Errorf("%.30q is no name", name)
		}
	}
	for b := range 256 {
		letter := b >= 'a' && b <= 'z'
		if impl.NameRight(string([]byte{byte(b)})) != letter {
			t.Errorf("byte %d as the first one of a name", b)
		}
		if impl.NameRight(string([]byte{'a', byte(b), 'z'})) != (letter || b >= '0' && b <= '9' || b == '_') {
			t.Errorf("byte %d in a name", b)
		}
	}
}

func TestCrcOfTexts(t *testing.T) {
	for _, c := range []struct {
		text string
		want int64
	}{
		{"", 0}, {"123456789", 0xCBF43926}, {"\x00", 0xD202EF8D}, {"a", 0xE8B7BE43}, {"\xff\xff\xff\xff", 0xFFFFFFFF},
	} {
		if got := impl.Crc(c.text); got != c.want {
			t.Errorf("Crc(%x): %x, want %x", c.text, got, c.want)
		}
	}
	for b := range 256 {
		text := string([]byte{byte(b)})
		if got := impl.Crc(text); got != int64(crc32.ChecksumIEEE([]byte(text))) {
			t.Errorf("Crc(%x): %x", text, got)
		}
	}
	long := manyBytes(impl.MaxBytes + 1)
	for _, n := range []int{2, 3, 100, 1000, impl.MaxBytes - 1, impl.MaxBytes} {
		if got := impl.Crc(long[:n]); got != int64(crc32.ChecksumIEEE([]byte(long[:n]))) {
			t.Errorf("Crc of %d bytes: %x", n, got)
		}
	}
	if got := impl.Crc(long); got != 0 {
		t.Errorf("Crc of too many bytes: %x", got)
	}
}

// Promise 2: a CRC goes on from text to text.
func TestCrcGoesOn(t *testing.T) {
	text := manyBytes(60)
	for cut := range len(text) + 1 {
		if got := impl.CrcMore(impl.Crc(text[:cut]), text[cut:]); got != impl.Crc(text) {
			t.Errorf("cut at %d: %x, want %x", cut, got, impl.Crc(text))
		}
	}
	crc := int64(0)
	for i := range len(text) {
		crc = impl.CrcMore(crc, text[i:i+1])
	}
	if crc != impl.Crc(text) {
		t.Errorf("byte by byte: %x, want %x", crc, impl.Crc(text))
	}
	long := manyBytes(impl.MaxBytes)
	both := int64(crc32.ChecksumIEEE([]byte(long + long)))
	if got := impl.CrcMore(impl.Crc(long), long); got != both {
		t.Errorf("both longer than one text may be: %x, want %x", got, both)
	}
}

func TestCrcMoreFaultsAndEnds(t *testing.T) {
	long := manyBytes(impl.MaxBytes + 1)
	for _, crc := range []int64{math.MinInt64, -(1 << 32), -1, 1 << 32, 1<<32 + 1, math.MaxInt64} {
		for _, text := range []string{"", "a", long[:impl.MaxBytes], long} {
			if got := impl.CrcMore(crc, text); got != 0 {
				t.Errorf("CrcMore(%d) of %d bytes: %x, want 0", crc, len(text), got)
			}
		}
	}
	for _, crc := range []int64{0, 1, 1 << 31, 1<<32 - 2, 1<<32 - 1} {
		if got := impl.CrcMore(crc, ""); got != crc {
			t.Errorf("CrcMore(%x) of nothing: %x", crc, got)
		}
		for _, text := range []string{"a", "\x00\x00", long[:impl.MaxBytes]} {
			want := int64(crc32.Update(uint32(crc), crc32.IEEETable, []byte(text)))
			if got := impl.CrcMore(crc, text); got != want {
				t.Errorf("CrcMore(%x) of %d bytes: %x, want %x", crc, len(text), got, want)
			}
		}
		if got := impl.CrcMore(crc, long); got != 0 {
			t.Errorf("CrcMore(%x) of too many bytes: %x", crc, got)
		}
	}
}

// Promise 2: a sealed text comes back.
func TestSealedTextsComeBack(t *testing.T) {
	long := manyBytes(impl.MaxBytes)
	for _, n := range []int{0, 1, 2, 3, 4, 5, 100, 4000, impl.MaxBytes - 5, impl.MaxBytes - 4} {
		text := long[:n]
		sealed := impl.Seal(text)
		if sealed != sealedBySum(text) {
			t.Errorf("Seal of %d bytes is not the text and its CRC, the lowest byte first", n)
		}
		if got := impl.Unseal(sealed); got != (impl.TextOut{Text: text}) {
			t.Errorf("Unseal of %d bytes: code %d, %d bytes, at %d", n, got.Code, len(got.Text), got.At)
		}
		if got := impl.Unseal(impl.Seal(sealed)); n < impl.MaxBytes-8 && got != (impl.TextOut{Text: sealed}) {
			t.Errorf("Unseal of %d bytes sealed twice: code %d, %d bytes", n, got.Code, len(got.Text))
		}
	}
	if got := impl.Seal("123456789"); got != "123456789\x26\x39\xf4\xcb" {
		t.Errorf("Seal: %x", got)
	}
	for _, n := range []int{impl.MaxBytes - 3, impl.MaxBytes} {
		if impl.Seal(long[:n]) != "" {
			t.Errorf("%d bytes are too many for a Seal", n)
		}
	}
	if impl.Seal(long+"a") != "" {
		t.Error("more than MaxBytes bytes are too many for a Seal")
	}
}

// Promise 2: with one byte turned a sealed text is refused.
func TestTurnedSealIsRefused(t *testing.T) {
	for _, text := range []string{"", "a", "ab", "\x00\x00\x00\x00", manyBytes(40)} {
		sealed := impl.Seal(text)
		for place := range len(sealed) {
			for turn := 1; turn < 256; turn++ {
				b := []byte(sealed)
				b[place] ^= byte(turn)
				if got := impl.Unseal(string(b)); got != (impl.TextOut{Code: impl.ErrSum}) {
					t.Fatalf("byte %d of %x turned by %x: %+v", place, sealed, turn, got)
				}
			}
		}
	}
	longest := []byte(impl.Seal(manyBytes(impl.MaxBytes - 4)))
	for _, place := range []int{0, 1, 4000, len(longest) - 5, len(longest) - 4, len(longest) - 1} {
		longest[place] ^= 1
		if got := impl.Unseal(string(longest)); got != (impl.TextOut{Code: impl.ErrSum}) {
			t.Errorf("byte %d of the longest turned: code %d, %d bytes", place, got.Code, len(got.Text))
		}
		longest[place] ^= 1
	}
}

func TestUnsealFaults(t *testing.T) {
	for _, c := range []struct {
		what string
		text string
		want int64
	}{
		{"nothing", "", impl.ErrShort},
		{"one byte", "\x00", impl.ErrShort},
		{"three bytes", "\x00\x00\x00", impl.ErrShort},
		{"four bytes that are no CRC of nothing", "\x00\x00\x00\x01", impl.ErrSum},
		{"the highest byte first", "123456789\xcb\xf4\x39\x26", impl.ErrSum},
		{"the CRC of another text", "12345678\x26\x39\xf4\xcb", impl.ErrSum},
		{"a Seal and one byte", impl.Seal("ab") + "\x00", impl.ErrSum},
		{"a Seal less one byte", impl.Seal("ab")[:5], impl.ErrSum},
		{"the most bytes, and no Seal", manyBytes(impl.MaxBytes), impl.ErrSum},
		{"more bytes than that", manyBytes(impl.MaxBytes + 1), impl.ErrSize},
		{"a true CRC behind too many bytes", sealedBySum(manyBytes(impl.MaxBytes - 3)), impl.ErrSize},
	} {
		if got := impl.Unseal(c.text); got != (impl.TextOut{Code: c.want}) {
			t.Errorf("Unseal, %s: code %d, %d bytes, at %d, want code %d", c.what, got.Code, len(got.Text), got.At, c.want)
		}
	}
	if got := impl.Unseal("\x00\x00\x00\x00"); got != (impl.TextOut{}) {
		t.Errorf("Unseal of the sealed empty text: %+v", got)
	}
}

// An answer is new memory, and the same for the same arguments.
func TestBytesAnswersAreNew(t *testing.T) {
	text := manyBytes(100) + strconv.Itoa(100)
	put, sealed := impl.PutText(text), impl.Seal(text)
	if shares(put, text) || shares(sealed, text) {
		t.Error("what is put or sealed shares memory with the text")
	}
	got, open := impl.GetText(put, 0), impl.Unseal(sealed)
	if shares(got.Text, put) || shares(open.Text, sealed) {
		t.Error("what comes back shares memory with its bytes")
	}
	if impl.GetText(put, 0) != got || impl.Unseal(sealed) != open {
		t.Error("a second call answers otherwise")
	}
}
