package tests

import (
	"encoding/binary"
	"hash/crc32"
	"math"
	"math/rand"
	"strings"
	"testing"

	"loop.example/g00271/impl"
)

const tooLong = impl.MaxBytes + 1

// edgeNums are the numbers at which a byte more is needed, on both sides of 0, and those beside them.
func edgeNums() []int64 {
	l := []int64{0, 1, -1, math.MaxInt64, math.MaxInt64 - 1, math.MinInt64, math.MinInt64 + 1}
	for bit := range 63 {
		n := int64(1) << bit
		l = append(l, n-1, n, n+1, -n-1, -n, -n+1)
	}
	return l
}

func someNums(count int) []int64 {
	r := rand.New(rand.NewSource(1))
	l := edgeNums()
	for range count {
		l = append(l, int64(r.Uint64())>>r.Intn(64))
	}
	return l
}

// Promise 1, numbers.

func TestPutNumBytes(t *testing.T) {
	same(t, "0", impl.PutNum(0), "\x00")
	same(t, "-1", impl.PutNum(-1), "\x01")
	same(t, "1", impl.PutNum(1), "\x02")
	same(t, "63", impl.PutNum(63), "\x7e")
	same(t, "-64", impl.PutNum(-64), "\x7f")
	same(t, "64", impl.PutNum(64), "\x80\x01")
	same(t, "-65", impl.PutNum(-65), "\x81\x01")
	same(t, "greatest", impl.PutNum(math.MaxInt64), "\xfe"+strings.Repeat("\xff", 8)+"\x01")
	same(t, "least", impl.PutNum(math.MinInt64), strings.Repeat("\xff", 9)+"\x01")
	for _, n := range someNums(5000) {
		same(t, "as of another writer", impl.PutNum(n), string(binary.AppendVarint(nil, n)))
	}
}

func TestNumsComeBack(t *testing.T) {
	for _, n := range someNums(5000) {
		b := impl.PutNum(n)
		size := int64(len(b))
		same(t, "alone", impl.GetNum(b, 0), impl.NumOut{N: n, At: size})
		same(t, "between others", impl.GetNum("\xff\x00\x80"+b+"\x80\x00", 3), impl.NumOut{N: n, At: 3 + size})
	}
}

func TestGetNumShort(t *testing.T) {
	short := impl.NumOut{Code: impl.ErrShort}
	for _, n := range edgeNums() {
		b := impl.PutNum(n)
		for end := range len(b) {
			same(t, "cut off", impl.GetNum(b[:end], 0), short)
		}
	}
	same(t, "no text", impl.GetNum("", 0), short)
	same(t, "at the end", impl.GetNum("\x00", 1), short)
	same(t, "behind the end", impl.GetNum("\x00", 2), short)
	same(t, "far behind the end", impl.GetNum("\x00", math.MaxInt64), short)
	same(t, "nine bytes that go on", impl.GetNum(strings.Repeat("\x80", 9), 0), short)
}

func TestGetNumSyntax(t *testing.T) {
	wrong := impl.NumOut{Code: impl.ErrSyntax}
	for many := 1; many <= 9; many++ {
		same(t, "a needless byte", impl.GetNum(strings.Repeat("\x80", many)+"\x00", 0), wrong)
		same(t, "a needless byte behind others", impl.GetNum(strings.Repeat("\xff", many)+"\x00", 0), wrong)
	}
	for tenth := 2; tenth < 256; tenth++ {
		b := strings.Repeat("\xff", 9) + string([]byte{byte(tenth)})
		same(t, "a tenth byte above 1, at the end", impl.GetNum(b, 0), wrong)
		same(t, "a tenth byte above 1, text behind it", impl.GetNum("x"+b+"\x00", 1), wrong)
	}
}

func TestGetNumOrderOfFaults(t *testing.T) {
	same(t, "at below 0", impl.GetNum("\x02", -1), impl.NumOut{Code: impl.ErrForm})
	same(t, "at far below 0, no text", impl.GetNum("", math.MinInt64), impl.NumOut{Code: impl.ErrForm})
	long := "\x02" + strings.Repeat("x", impl.MaxBytes)
	same(t, "too long", impl.GetNum(long, 0), impl.NumOut{Code: impl.ErrSize})
	same(t, "too long ahead of at below 0", impl.GetNum(long, -1), impl.NumOut{Code: impl.ErrSize})
	same(t, "too long ahead of at behind it", impl.GetNum(long, tooLong), impl.NumOut{Code: impl.ErrSize})
	same(t, "as long as may be", impl.GetNum(long[:impl.MaxBytes], 0), impl.NumOut{N: 1, At: 1})
	last := strings.Repeat("x", impl.MaxBytes-1) + "\x03"
	same(t, "in the last byte", impl.GetNum(last, impl.MaxBytes-1), impl.NumOut{N: -2, At: impl.MaxBytes})
}

// Promise 1, texts.

func TestPutTextBytes(t *testing.T) {
	same(t, "none", impl.PutText(""), "\x00")
	same(t, "ab", impl.PutText("ab"), "\x04ab")
	same(t, "any bytes", impl.PutText("\x00\xff"), "\x04\x00\xff")
	long := strings.Repeat("x", impl.MaxBytes)
	same(t, "as long as may be", impl.PutText(long), "\xc0\xb8\x02"+long)
	same(t, "too long", impl.PutText(long+"x"), "")
}

func TestTextsComeBack(t *testing.T) {
	for _, size := range []int{0, 1, 2, 63, 64, 65, 8191, 8192, impl.MaxBytes - 4, impl.MaxBytes - 3} {
		text := anyText(size)
		b := impl.PutText(text)
		same(t, "alone", impl.GetText(b, 0), impl.TextOut{Text: text, At: int64(len(b))})
		if len(b)+3 <= impl.MaxBytes {
			out := impl.TextOut{Text: text, At: int64(len(b)) + 2}
			same(t, "between others", impl.GetText("\xff\x00"+b+"\x00", 2), out)
		}
	}
	same(t, "one that does not fit in", impl.GetText(impl.PutText(anyText(impl.MaxBytes)), 0), impl.TextOut{Code: impl.ErrSize})
}

// anyText has bytes of all kinds, the same ones each time.
func anyText(size int) string {
	b := make([]byte, size)
	rand.New(rand.NewSource(int64(size))).Read(b)
	return string(b)
}

func TestGetTextFaults(t *testing.T) {
	short := impl.TextOut{Code: impl.ErrShort}
	wrong := impl.TextOut{Code: impl.ErrSyntax}
	b := impl.PutText(anyText(70))
	for end := range len(b) {
		same(t, "cut off", impl.GetText(b[:end], 0), short)
	}
	same(t, "at the end", impl.GetText("\x00", 1), short)
	same(t, "far behind the end", impl.GetText("\x00", math.MaxInt64), short)
	same(t, "a length in needless bytes", impl.GetText("\x84\x00ab", 0), wrong)
	same(t, "a length that is no number", impl.GetText(strings.Repeat("\xff", 9)+"\x02", 0), wrong)
	same(t, "a length below 0", impl.GetText("\x01ab", 0), wrong)
	same(t, "the least length", impl.GetText(impl.PutNum(math.MinInt64), 0), wrong)
	same(t, "the greatest length", impl.GetText(impl.PutNum(math.MaxInt64), 0), wrong)
	same(t, "a length above the limit", impl.GetText(impl.PutNum(impl.MaxBytes+1)+"ab", 0), wrong)
	same(t, "a length at the limit", impl.GetText(impl.PutNum(impl.MaxBytes)+"ab", 0), short)
}

func TestGetTextOrderOfFaults(t *testing.T) {
	same(t, "at below 0", impl.GetText("\x00", -1), impl.TextOut{Code: impl.ErrForm})
	long := "\x00" + strings.Repeat("x", impl.MaxBytes)
	same(t, "too long", impl.GetText(long, 0), impl.TextOut{Code: impl.ErrSize})
	same(t, "too long ahead of at below 0", impl.GetText(long, -1), impl.TextOut{Code: impl.ErrSize})
	same(t, "as long as may be", impl.GetText(long[:impl.MaxBytes], 0), impl.TextOut{At: 1})
}

// Names.

func TestNameRight(t *testing.T) {
	for _, n := range []string{"a", "z", "a_9", "z0", "a__", strings.Repeat("a", 20), "abcdefghijklmnopqrst", "uvwxyz_0123456789"} {
		same(t, n, impl.NameRight(n), true)
	}
	wrong := []string{"", "_a", "9a", "A", "aB", "a-b", "a b", "a.b", "a\x00", "\x00", " a", "a ", "é", "aé", "a\xff", strings.Repeat("a", 21), strings.Repeat("a", tooLong)}
	for _, n := range wrong {
		same(t, brief(n), impl.NameRight(n), false)
	}
	for b := range 256 {
		one := string([]byte{byte(b)})
		first := b >= 'a' && b <= 'z'
		same(t, "first byte "+brief(one), impl.NameRight(one), first)
		same(t, "later byte "+brief(one), impl.NameRight("a"+one), first || b >= '0' && b <= '9' || b == '_')
	}
}

// Promise 2, the CRC.

func TestCrc(t *testing.T) {
	same(t, "none", impl.Crc(""), 0)
	same(t, "the check text", impl.Crc("123456789"), 0xCBF43926)
	for _, size := range []int{1, 2, 3, 4, 5, 64, 1000, impl.MaxBytes} {
		text := anyText(size)
		same(t, "as of another sum", impl.Crc(text), int64(crc32.ChecksumIEEE([]byte(text))))
	}
	for b := range 256 {
		one := []byte{byte(b)}
		same(t, "of one byte", impl.Crc(string(one)), int64(crc32.ChecksumIEEE(one)))
	}
	same(t, "too long", impl.Crc(strings.Repeat("x", tooLong)), 0)
}

func TestCrcMore(t *testing.T) {
	text := anyText(300)
	for cut := range len(text) + 1 {
		same(t, "goes on", impl.CrcMore(impl.Crc(text[:cut]), text[cut:]), impl.Crc(text))
	}
	for _, crc := range []int64{0, 1, 1 << 31, 1<<32 - 1} {
		same(t, "nothing behind it", impl.CrcMore(crc, ""), crc)
		same(t, "as of another sum", impl.CrcMore(crc, "ab"), int64(crc32.Update(uint32(crc), crc32.IEEETable, []byte("ab"))))
	}
	for _, crc := range []int64{-1, 1 << 32, math.MinInt64, math.MaxInt64} {
		same(t, "no CRC", impl.CrcMore(crc, "ab"), 0)
		same(t, "no CRC, no text", impl.CrcMore(crc, ""), 0)
	}
	long := strings.Repeat("x", tooLong)
	same(t, "too long", impl.CrcMore(1, long), 0)
	same(t, "the rest as long as may be", impl.CrcMore(impl.Crc("ab"), long[1:]), int64(crc32.ChecksumIEEE([]byte("ab"+long[1:]))))
}

// Promise 2, seals.

func TestSealBytes(t *testing.T) {
	same(t, "none", impl.Seal(""), "\x00\x00\x00\x00")
	same(t, "the check text", impl.Seal("123456789"), "123456789\x26\x39\xf4\xcb")
	long := strings.Repeat("x", impl.MaxBytes-4)
	same(t, "as long as may be", len(impl.Seal(long)), impl.MaxBytes)
	same(t, "one more", impl.Seal(long+"x"), "")
	same(t, "too long", impl.Seal(long+"xxxxx"), "")
}

func TestSealsComeBack(t *testing.T) {
	for _, size := range []int{0, 1, 3, 4, 5, 200, impl.MaxBytes - 4} {
		text := anyText(size)
		same(t, "back", impl.Unseal(impl.Seal(text)), impl.TextOut{Text: text})
	}
}

func TestTurnedByteIsRefused(t *testing.T) {
	refused := impl.TextOut{Code: impl.ErrSum}
	for _, size := range []int{0, 1, 40} {
		sealed := []byte(impl.Seal(anyText(size)))
		for at := range sealed {
			for turn := 1; turn < 256; turn++ {
				sealed[at] ^= byte(turn)
				same(t, "turned", impl.Unseal(string(sealed)), refused)
				sealed[at] ^= byte(turn)
			}
		}
	}
}

func TestUnsealFaults(t *testing.T) {
	short := impl.TextOut{Code: impl.ErrShort}
	for _, b := range []string{"", "a", "ab", "abc", "\x00\x00\x00"} {
		same(t, brief(b), impl.Unseal(b), short)
	}
	same(t, "no seal", impl.Unseal("abcd"), impl.TextOut{Code: impl.ErrSum})
	same(t, "the highest byte first", impl.Unseal("123456789\xcb\xf4\x39\x26"), impl.TextOut{Code: impl.ErrSum})
	same(t, "cut off", impl.Unseal(impl.Seal("abcdef")[:9]), impl.TextOut{Code: impl.ErrSum})
	long := strings.Repeat("x", impl.MaxBytes)
	same(t, "as long as may be", impl.Unseal(long), impl.TextOut{Code: impl.ErrSum})
	same(t, "too long", impl.Unseal(long+"x"), impl.TextOut{Code: impl.ErrSize})
}
