package impl

import (
	"errors"
	"math"
	"strconv"
)

// The codes that calls tell, and the limits that hold in each layer.
const (
	OK        = 0
	ErrForm   = 1
	ErrSize   = 2
	ErrSyntax = 3
	ErrShort  = 4
	ErrSum    = 5
	ErrNone   = 6
	ErrThere  = 7
	ErrRange  = 8
	ErrFull   = 9
	ErrState  = 10
	ErrDenied = 11
	MaxBytes  = 8000
	MaxList   = 400
	MaxTime   = 1000000
)

// A number has at most ten bytes of seven bits: 64 bits are nine times seven and one more,
// so the tenth byte, which begins at bit 63, can only be 0 or 1.
const (
	numBytes  = 10
	tenthBit  = 63
	goesOn    = 128
	sevenBits = 127
)

const (
	sumBytes    = 4
	sumTurn     = 0xEDB88320
	nameLongest = 20
)

// NumOut is a number that was read, and the place behind it.
type NumOut struct {
	N    int64
	At   int64
	Code int64
}

// TextOut is a text that was read, and the place behind it.
type TextOut struct {
	Text string
	At   int64
	Code int64
}

// readFault tells why no number or no text can be read; its code goes into the answer.
type readFault struct {
	code int64
}

// Error makes a readFault an error; the calls tell the code alone.
func (f readFault) Error() string {
	return "cannot be read: code " + strconv.FormatInt(f.code, 10)
}

// PutNum writes a number in one to ten bytes.
func PutNum(n int64) string {
	var b [numBytes]byte
	u := folded(n)
	i := 0
	for u >= goesOn {
		b[i] = byte(u&sevenBits) | goesOn
		u >>= 7
		i++
	}
	b[i] = byte(u)
	return string(b[:i+1])
}

// GetNum reads the number that stands at a place of the text.
func GetNum(text string, at int64) NumOut {
	n, behind, err := readNum(text, at)
	var fault readFault
	if errors.As(err, &fault) {
		return NumOut{Code: fault.code}
	}
	return NumOut{N: n, At: behind}
}

// PutText writes a text's length, and the text.
func PutText(t string) string {
	if len(t) > MaxBytes {
		return ""
	}
	return joined(PutNum(int64(len(t))), t)
}

// GetText reads the text that stands, behind its length, at a place of the text.
func GetText(text string, at int64) TextOut {
	t, behind, err := readText(text, at)
	var fault readFault
	if errors.As(err, &fault) {
		return TextOut{Code: fault.code}
	}
	return TextOut{Text: t, At: behind}
}

// NameRight tells whether a text is a name.
func NameRight(t string) bool {
	if len(t) < 1 || len(t) > nameLongest || !isLetter(t[0]) {
		return false
	}
	for i := 1; i < len(t); i++ {
		if !isLetter(t[i]) && !isDigit(t[i]) && t[i] != '_' {
			return false
		}
	}
	return true
}

// Crc is the CRC of a text.
func Crc(text string) int64 {
	// the CRC of the empty text is 0, so that one text is what stands behind no text
	return CrcMore(0, text)
}

// CrcMore is the CRC of two texts, given that of the first one.
func CrcMore(crc int64, text string) int64 {
	if len(text) > MaxBytes || crc < 0 || crc > math.MaxUint32 {
		return 0
	}
	register := ^uint32(crc)
	for i := 0; i < len(text); i++ {
		register = shiftedBy(register, text[i])
	}
	return int64(^register)
}

// Seal is a text, and its CRC behind it.
func Seal(text string) string {
	if len(text) > MaxBytes-sumBytes {
		return ""
	}
	return joined(text, sumOf(text))
}

// Unseal is the text of which a text is the Seal.
func Unseal(text string) TextOut {
	if len(text) > MaxBytes {
		return TextOut{Code: ErrSize}
	}
	if len(text) < sumBytes {
		return TextOut{Code: ErrShort}
	}
	ahead := piece(text, 0, int64(len(text)-sumBytes))
	if Seal(ahead) != text {
		return TextOut{Code: ErrSum}
	}
	return TextOut{Text: ahead}
}

// readNum reads a number, and tells the place behind it; an error of it is a readFault.
func readNum(text string, at int64) (int64, int64, error) {
	if len(text) > MaxBytes {
		return 0, 0, readFault{ErrSize}
	}
	if at < 0 {
		return 0, 0, readFault{ErrForm}
	}
	var u uint64
	var b byte
	bit := 0
more:
	if at >= int64(len(text)) {
		return 0, 0, readFault{ErrShort}
	}
	b = text[at]
	at++
	if bit == tenthBit && b > 1 {
		goto wrong
	}
	u |= uint64(b&sevenBits) << bit
	if b < goesOn {
		goto last
	}
	bit += 7
	goto more
last:
	// a last byte of no bits was not needed, unless it is the only one
	if b == 0 && bit > 0 {
		goto wrong
	}
	return unfolded(u), at, nil
wrong:
	return 0, 0, readFault{ErrSyntax}
}

// readText reads a text, and tells the place behind it; an error of it is a readFault.
func readText(text string, at int64) (string, int64, error) {
	n, from, err := readNum(text, at)
	if err != nil {
		return "", 0, err
	}
	if n < 0 || n > MaxBytes {
		return "", 0, readFault{ErrSyntax}
	}
	if n > int64(len(text))-from {
		return "", 0, readFault{ErrShort}
	}
	return piece(text, from, from+n), from + n, nil
}

// folded puts the numbers below 0 between the others, so that those near 0 need few bytes.
func folded(n int64) uint64 {
	return uint64(n)<<1 ^ uint64(n>>63)
}

// unfolded takes folded back.
func unfolded(u uint64) int64 {
	return int64(u>>1) ^ -int64(u&1)
}

// joined is a new text: b behind a.
func joined(a string, b string) string {
	t := make([]byte, len(a)+len(b))
	n := copy(t, a)
	copy(t[n:], b)
	return string(t)
}

// piece is a new text: it keeps no hold on the memory of the one that it is taken from.
func piece(text string, from int64, to int64) string {
	t := make([]byte, to-from)
	copy(t, text[from:to])
	return string(t)
}

// shiftedBy is the register of a CRC when one more byte has gone through it.
func shiftedBy(register uint32, b byte) uint32 {
	// all eight bits may go in at once: each reaches the register's end just when its turn comes
	register ^= uint32(b)
	for range 8 {
		low := register & 1
		register >>= 1
		if low == 1 {
			register ^= sumTurn
		}
	}
	return register
}

// sumOf is the four bytes of a text's CRC, the lowest first.
func sumOf(text string) string {
	crc := Crc(text)
	var b [sumBytes]byte
	for i := range b {
		b[i] = byte(crc >> (8 * i))
	}
	return string(b[:])
}

func isLetter(b byte) bool {
	return b >= 'a' && b <= 'z'
}

func isDigit(b byte) bool {
	return b >= '0' && b <= '9'
}
