package impl

import (
	"errors"
	"strconv"
)

// Constants, see chapter 1.
const (
	OK        = 0
	ErrForm   = 1
	ErrSize   = 2
	ErrSyntax = 3
	ErrShort  = 4
	ErrSum    = 5
	ErrType   = 6
	ErrThere  = 7
	ErrNone   = 8
	ErrRange  = 9
	ErrUnique = 10
	ErrFull   = 11
	ErrState  = 12
	ErrOver   = 13
	MaxBytes  = 20000
	MaxList   = 400
	MaxTime   = 1000000000
)

// NumOut is a thing of chapter 2.
type NumOut struct {
	N    int64
	At   int64
	Code int64
}

// TextOut is a thing of chapter 2.
type TextOut struct {
	Text string
	At   int64
	Code int64
}

// longestNum is how many bytes of seven bits the 64 bits of a number need at the most.
const longestNum = 10

// crcTurn is the CRC's polynomial, its lowest power in the highest bit.
const crcTurn = 0xEDB88320

// sumBytes is how many bytes of a CRC stand behind a sealed text.
const sumBytes = 4

// byteFault is what is wrong with bytes that are read: it carries the code that a call tells.
type byteFault struct {
	code int64
}

func (f byteFault) Error() string {
	return "bytes refused with code " + strconv.FormatInt(f.code, 10)
}

// faultCode takes an error of a reader apart into the code that is told.
func faultCode(err error) int64 {
	var f byteFault
	switch {
	case err == nil:
		return OK
	case errors.As(err, &f):
		return f.code
	}
	return ErrForm
}

// tooLong tells whether a text is refused ahead of all else.
func tooLong(text string) bool {
	return len(text) > MaxBytes
}

// joinTexts puts texts one behind the other into memory of their own.
func joinTexts(parts ...string) string {
	size := 0
	for _, p := range parts {
		size += len(p)
	}
	all := make([]byte, size)
	at := 0
	for _, p := range parts {
		at += copy(all[at:], p)
	}
	return string(all)
}

// PutNum: see chapter 2.
func PutNum(n int64) string {
	// The sign goes to the lowest bit, so that numbers near 0 on both sides stay short.
	u := uint64(n)<<1 ^ uint64(n>>63)
	var b [longestNum]byte
	size := 0
	for u >= 128 {
		b[size] = byte(u) | 128
		u >>= 7
		size++
	}
	b[size] = byte(u)
	return string(b[:size+1])
}

// readNum reads the number that stands at a place (not below 0), and tells the place behind it.
func readNum(text string, at int64) (int64, int64, error) {
	var u uint64
	var b byte
	many := 0
more:
	if at >= int64(len(text)) {
		return 0, 0, byteFault{ErrShort}
	}
	b = text[at]
	u |= uint64(b&127) << (7 * many)
	many++
	at++
	if many == longestNum && b > 1 {
		goto wrong
	}
	if b < 128 {
		goto last
	}
	goto more
last:
	// A highest byte of nothing could have been left out.
	if b == 0 && many > 1 {
		goto wrong
	}
	return int64(u>>1) ^ -int64(u&1), at, nil
wrong:
	return 0, 0, byteFault{ErrSyntax}
}

// readText reads the text that stands at a place (not below 0), and tells the place behind it.
func readText(text string, at int64) (string, int64, error) {
	size, from, err := readNum(text, at)
	if err != nil {
		return "", 0, err
	}
	if size < 0 || size > MaxBytes {
		return "", 0, byteFault{ErrSyntax}
	}
	if size > int64(len(text))-from {
		return "", 0, byteFault{ErrShort}
	}
	return joinTexts(text[from : from+size]), from + size, nil
}

// placeFault looks for what is refused ahead of reading at a place of a text.
func placeFault(text string, at int64) error {
	if tooLong(text) {
		return byteFault{ErrSize}
	}
	if at < 0 {
		return byteFault{ErrForm}
	}
	return nil
}

// GetNum: see chapter 2.
func GetNum(text string, at int64) NumOut {
	if err := placeFault(text, at); err != nil {
		return NumOut{Code: faultCode(err)}
	}
	n, behind, err := readNum(text, at)
	return NumOut{N: n, At: behind, Code: faultCode(err)}
}

// PutText: see chapter 2.
func PutText(t string) string {
	if tooLong(t) {
		return ""
	}
	return joinTexts(PutNum(int64(len(t))), t)
}

// GetText: see chapter 2.
func GetText(text string, at int64) TextOut {
	if err := placeFault(text, at); err != nil {
		return TextOut{Code: faultCode(err)}
	}
	t, behind, err := readText(text, at)
	return TextOut{Text: t, At: behind, Code: faultCode(err)}
}

// NameRight: see chapter 2.
func NameRight(t string) bool {
	if len(t) < 1 || len(t) > 20 || !isLetter(t[0]) {
		return false
	}
	for i := range len(t) {
		if !isLetter(t[i]) && !isDigit(t[i]) && t[i] != '_' {
			return false
		}
	}
	return true
}

func isLetter(b byte) bool {
	return b >= 'a' && b <= 'z'
}

func isDigit(b byte) bool {
	return b >= '0' && b <= '9'
}

// Crc: see chapter 2.
func Crc(text string) int64 {
	return CrcMore(0, text)
}

// CrcMore: see chapter 2.
func CrcMore(crc int64, text string) int64 {
	if tooLong(text) || crc < 0 || crc >= 1<<32 {
		return 0
	}
	// A CRC is a register turned: turned back, it goes on where the text ahead left it.
	register := ^uint32(crc)
	for i := range len(text) {
		register = shiftByte(register ^ uint32(text[i]))
	}
	return int64(^register)
}

// shiftByte shifts a register by the eight bits that are put together with its lowest ones already.
func shiftByte(register uint32) uint32 {
	for range 8 {
		odd := register&1 == 1
		register >>= 1
		if odd {
			register ^= crcTurn
		}
	}
	return register
}

// sumText is the CRC of a text in its four bytes.
func sumText(text string) string {
	crc := uint32(Crc(text))
	b := [sumBytes]byte{byte(crc), byte(crc >> 8), byte(crc >> 16), byte(crc >> 24)}
	return string(b[:])
}

// Seal: see chapter 2.
func Seal(text string) string {
	if len(text) > MaxBytes-sumBytes {
		return ""
	}
	return joinTexts(text, sumText(text))
}

// Unseal: see chapter 2.
func Unseal(text string) TextOut {
	if tooLong(text) {
		return TextOut{Code: ErrSize}
	}
	if len(text) < sumBytes {
		return TextOut{Code: ErrShort}
	}
	end := len(text) - sumBytes
	if sumText(text[:end]) != text[end:] {
		return TextOut{Code: ErrSum}
	}
	return TextOut{Text: joinTexts(text[:end])}
}
