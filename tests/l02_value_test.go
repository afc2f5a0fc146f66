package tests

import (
	"bytes"
	"cmp"
	"encoding/binary"
	"math"
	"math/rand"
	"slices"
	"strings"
	"testing"

	"loop.example/g00271/impl"
)

func null() impl.Value { return impl.Value{} }

func boolOf(n int64) impl.Value { return impl.Value{Kind: impl.KindBool, Num: n} }

func intOf(n int64) impl.Value { return impl.Value{Kind: impl.KindInt, Num: n} }

func textOf(t string) impl.Value { return impl.Value{Kind: impl.KindText, Text: t} }

// repeated is a list of one value, many times over.
func repeated(v impl.Value, many int) []impl.Value {
	return slices.Repeat([]impl.Value{v}, many)
}

// edgeValues are right values, each one ahead of the next in their order.
func edgeValues() []impl.Value {
	l := []impl.Value{null(), boolOf(0), boolOf(1)}
	nums := edgeNums()
	slices.Sort(nums)
	for _, n := range slices.Compact(nums) {
		l = append(l, intOf(n))
	}
	full := strings.Repeat("\xff", impl.MaxText)
	texts := []string{
		"", "\x00", "\x00\x00", strings.Repeat("\x00", impl.MaxText), "\x00\x01", "\x00\xfe", "\x00\xff", "\x00\xff\x00",
		"\x01", "\x01\x00", "\x02", "\x03", "a", "a\x00", "a\x00\x00", "a\x00b", "a\x01", "aa", "ab", "b", "é", "\xfe", full[1:], full,
	}
	slices.Sort(texts)
	for _, t := range texts {
		l = append(l, textOf(t))
	}
	return l
}

// wrongValues are not right, each for one reason.
func wrongValues() []impl.Value {
	return []impl.Value{
		{Num: 1}, {Num: -1}, {Text: "a"},
		{Kind: impl.KindBool, Num: 2}, {Kind: impl.KindBool, Num: -1}, {Kind: impl.KindBool, Num: 256}, {Kind: impl.KindBool, Num: 257},
		{Kind: impl.KindBool, Text: "a"}, {Kind: impl.KindBool, Num: 1, Text: "a"}, {Kind: impl.KindBool, Num: math.MinInt64},
		{Kind: impl.KindInt, Text: "a"}, {Kind: impl.KindInt, Num: 7, Text: "\x00"},
		{Kind: impl.KindText, Num: 1}, {Kind: impl.KindText, Num: -1, Text: "a"},
		textOf(strings.Repeat("a", impl.MaxText+1)), textOf(strings.Repeat("\x00", impl.MaxText+1)), textOf(strings.Repeat("a", tooLong)),
		{Kind: -1}, {Kind: 4}, {Kind: 255}, {Kind: 256}, {Kind: 258, Num: 1}, {Kind: math.MaxInt64}, {Kind: math.MinInt64},
	}
}

// someValues draws lists whose items are alike often, so that lists that begin others come up.
func someValues(count int) [][]impl.Value {
	r := rand.New(rand.NewSource(3))
	few := []impl.Value{null(), boolOf(0), boolOf(1), intOf(-1), intOf(0), intOf(1), textOf(""), textOf("\x00"), textOf("a"), textOf("a\x00")}
	edges := edgeValues()
	lists := [][]impl.Value{nil}
	for range count {
		var l []impl.Value
		for range r.Intn(impl.MaxValues + 1) {
			from := few
			if r.Intn(3) == 0 {
				from = edges
			}
			l = append(l, from[r.Intn(len(from))])
		}
		lists = append(lists, l[:min(len(l), 1+r.Intn(impl.MaxValues))])
	}
	return lists
}

func sameValues(t *testing.T, what string, got impl.ValuesOut, values []impl.Value, code int64) {
	t.Helper()
	if got.Code != code || !slices.Equal(got.Values, values) {
		t.Errorf("%s: got %s, want %s with code %d", what, brief(got), brief(values), code)
	}
}

// What is right.

func TestValueRight(t *testing.T) {
	for _, v := range edgeValues() {
		same(t, brief(v), impl.ValueRight(v), true)
	}
	for _, v := range wrongValues() {
		same(t, brief(v), impl.ValueRight(v), false)
	}
}

func TestValuesRight(t *testing.T) {
	same(t, "none", impl.ValuesRight(nil), true)
	same(t, "empty", impl.ValuesRight([]impl.Value{}), true)
	for _, v := range edgeValues() {
		same(t, "one", impl.ValuesRight([]impl.Value{v}), true)
		same(t, "as many as may be", impl.ValuesRight(repeated(v, impl.MaxValues)), true)
		same(t, "one more", impl.ValuesRight(repeated(v, impl.MaxValues+1)), false)
	}
	same(t, "as long as a list may be", impl.ValuesRight(repeated(null(), impl.MaxList)), false)
	same(t, "too long a list", impl.ValuesRight(repeated(null(), impl.MaxList+1)), false)
	for _, v := range wrongValues() {
		for at := range impl.MaxValues {
			l := repeated(intOf(1), impl.MaxValues)
			l[at] = v
			same(t, "a wrong one among others", impl.ValuesRight(l), false)
		}
	}
}

// Promise 3, order.

func TestCompareOne(t *testing.T) {
	l := edgeValues()
	for i, a := range l {
		for j, b := range l {
			same(t, brief(a)+" and "+brief(b), impl.Compare([]impl.Value{a}, []impl.Value{b}), int64(cmp.Compare(i, j)))
		}
	}
}

func TestCompareLists(t *testing.T) {
	rising := [][]impl.Value{
		nil, {null()}, {null(), null()}, {null(), textOf("z")}, {boolOf(0), intOf(9)}, {boolOf(1)}, {boolOf(1), null()},
		{intOf(-1), textOf("z"), intOf(9)}, {intOf(0)}, {intOf(0), intOf(-1)}, {intOf(0), intOf(1)}, {intOf(0), textOf("")}, {intOf(1)},
		{textOf("")}, {textOf(""), null()}, {textOf(""), textOf("z")}, {textOf("\x00")}, {textOf("\x00"), null()},
		{textOf("a"), textOf("b")}, {textOf("a"), textOf("c")}, {textOf("a\x00")}, {textOf("ab")},
		repeated(textOf("b"), impl.MaxValues-1), repeated(textOf("b"), impl.MaxValues),
	}
	for i, a := range rising {
		for j, b := range rising {
			same(t, brief(a)+" and "+brief(b), impl.Compare(a, b), int64(cmp.Compare(i, j)))
		}
	}
	same(t, "none and empty", impl.Compare(nil, []impl.Value{}), 0)
}

func TestCompareWrong(t *testing.T) {
	right := []impl.Value{intOf(1)}
	for _, v := range wrongValues() {
		wrong := []impl.Value{v}
		same(t, "first", impl.Compare(wrong, right), 0)
		same(t, "second", impl.Compare(right, wrong), 0)
		same(t, "second, against none", impl.Compare(nil, wrong), 0)
		same(t, "behind where the order is settled", impl.Compare([]impl.Value{null(), v}, right), 0)
		same(t, "behind the other's end", impl.Compare(right, []impl.Value{intOf(1), v}), 0)
	}
	for _, many := range []int{impl.MaxValues + 1, impl.MaxList, impl.MaxList + 1} {
		same(t, "too many first", impl.Compare(repeated(intOf(1), many), nil), 0)
		same(t, "too many second", impl.Compare(nil, repeated(intOf(1), many)), 0)
	}
}

func TestOrderOfBytes(t *testing.T) {
	l := edgeValues()
	for i, a := range l {
		for j, b := range l {
			ka, kb := impl.KeyBytes([]impl.Value{a}), impl.KeyBytes([]impl.Value{b})
			same(t, brief(a)+" and "+brief(b), cmp.Compare(ka, kb), cmp.Compare(i, j))
		}
	}
	lists := someValues(300)
	for _, a := range lists {
		for _, b := range lists {
			same(t, brief(a)+" and "+brief(b), int64(cmp.Compare(impl.KeyBytes(a), impl.KeyBytes(b))), impl.Compare(a, b))
		}
	}
}

// Promise 3, bytes.

// bytesOf writes the bytes of right values as the document says, in another way than the program.
func bytesOf(l []impl.Value) string {
	var b []byte
	for _, v := range l {
		b = append(b, byte(v.Kind))
		switch v.Kind {
		case impl.KindBool:
			b = append(b, byte(v.Num))
		case impl.KindInt:
			b = binary.BigEndian.AppendUint64(b, uint64(v.Num)+1<<63)
		case impl.KindText:
			b = append(b, bytes.Join(bytes.Split([]byte(v.Text), []byte{0}), []byte{0, 255})...)
			b = append(b, 0, 0)
		}
	}
	return string(b)
}

func TestKeyBytes(t *testing.T) {
	same(t, "none", impl.KeyBytes(nil), "")
	same(t, "null", impl.KeyBytes([]impl.Value{null()}), "\x00")
	same(t, "false", impl.KeyBytes([]impl.Value{boolOf(0)}), "\x01\x00")
	same(t, "true", impl.KeyBytes([]impl.Value{boolOf(1)}), "\x01\x01")
	same(t, "0", impl.KeyBytes([]impl.Value{intOf(0)}), "\x02\x80\x00\x00\x00\x00\x00\x00\x00")
	same(t, "-1", impl.KeyBytes([]impl.Value{intOf(-1)}), "\x02\x7f\xff\xff\xff\xff\xff\xff\xff")
	same(t, "each byte", impl.KeyBytes([]impl.Value{intOf(0x0102030405060708)}), "\x02\x81\x02\x03\x04\x05\x06\x07\x08")
	same(t, "greatest", impl.KeyBytes([]impl.Value{intOf(math.MaxInt64)}), "\x02"+strings.Repeat("\xff", 8))
	same(t, "least", impl.KeyBytes([]impl.Value{intOf(math.MinInt64)}), "\x02"+strings.Repeat("\x00", 8))
	same(t, "no bytes", impl.KeyBytes([]impl.Value{textOf("")}), "\x03\x00\x00")
	same(t, "zeros", impl.KeyBytes([]impl.Value{textOf("\x00a\x00\xff")}), "\x03\x00\xffa\x00\xff\xff\x00\x00")
	same(t, "one of each", impl.KeyBytes([]impl.Value{textOf("a"), null(), boolOf(1), textOf("")}), "\x03a\x00\x00\x00\x01\x01\x03\x00\x00")
	for _, l := range someValues(3000) {
		same(t, brief(l), impl.KeyBytes(l), bytesOf(l))
	}
}

func TestKeyBytesWrong(t *testing.T) {
	for _, v := range wrongValues() {
		same(t, brief(v), impl.KeyBytes([]impl.Value{v}), "")
		same(t, "behind a right one: "+brief(v), impl.KeyBytes([]impl.Value{intOf(1), v}), "")
	}
	for _, many := range []int{impl.MaxValues + 1, impl.MaxList, impl.MaxList + 1} {
		same(t, "too many", impl.KeyBytes(repeated(null(), many)), "")
	}
}

func TestValuesComeBack(t *testing.T) {
	lists := someValues(3000)
	for _, v := range edgeValues() {
		lists = append(lists, []impl.Value{v}, repeated(v, impl.MaxValues))
	}
	for _, l := range lists {
		sameValues(t, "back", impl.KeyRead(impl.KeyBytes(l)), l, impl.OK)
	}
	sameValues(t, "no bytes", impl.KeyRead(""), nil, impl.OK)
}

func TestKeyReadWrong(t *testing.T) {
	full := strings.Repeat("a", impl.MaxText)
	wrong := []string{
		"\x04", "\x05\x00", "\xff", "a", "\x00\x04",
		"\x01", "\x01\x02", "\x01\xff", "\x00\x01",
		"\x02", "\x02\x80\x00\x00\x00\x00\x00\x00", "\x02\x80\x00\x00\x00\x00\x00\x00\x00\x01",
		"\x03", "\x03a", "\x03\x00", "\x03a\x00", "\x03\x00\xff", "\x03\x00\xff\x00", "\x03a\x00\x01\x00\x00", "\x03\x00\xfe\x00\x00", "\x03\x00a\x00\x00",
		"\x03\x00\x00\xff", "\x03" + full, "\x03" + full + "\x00", "\x03" + full + "a\x00\x00", "\x03" + strings.Repeat("\x00\xff", impl.MaxText+1) + "\x00\x00",
		strings.Repeat("\x00", impl.MaxValues+1), strings.Repeat("\x01\x00", impl.MaxValues+1), strings.Repeat("\x00", impl.MaxValues) + "\x04",
		strings.Repeat("\x00", impl.MaxBytes), "\x03" + strings.Repeat("a", impl.MaxBytes-3) + "\x00\x00", strings.Repeat("x", impl.MaxBytes),
	}
	for _, b := range wrong {
		sameValues(t, brief(b), impl.KeyRead(b), nil, impl.ErrSyntax)
		if len(b) < 1000 {
			sameValues(t, "behind a right one: "+brief(b), impl.KeyRead("\x01\x01"+b), nil, impl.ErrSyntax)
		}
	}
	sameValues(t, "a full text", impl.KeyRead("\x03"+full+"\x00\x00"), []impl.Value{textOf(full)}, impl.OK)
	for _, b := range []string{"\x00", "\xff", "\x03a"} {
		sameValues(t, "too long", impl.KeyRead(strings.Repeat(b, tooLong)), nil, impl.ErrSize)
	}
}

// What is read from any bytes is right, and has just these bytes.
func TestKeyReadAnyBytes(t *testing.T) {
	r := rand.New(rand.NewSource(4))
	few := []byte{0, 0, 1, 1, 2, 3, 3, 4, 255, 255, 'a'}
	read := 0
	for range 200000 {
		b := make([]byte, r.Intn(14))
		for i := range b {
			b[i] = few[r.Intn(len(few))]
		}
		out := impl.KeyRead(string(b))
		if out.Code != impl.OK {
			sameValues(t, brief(b), out, nil, impl.ErrSyntax)
			continue
		}
		read++
		same(t, "right", impl.ValuesRight(out.Values), true)
		same(t, "its bytes", impl.KeyBytes(out.Values), string(b))
	}
	if read < 1000 {
		t.Errorf("only %d texts were read: the test looks at too little", read)
	}
}

// What is handed in stays as it is.
func TestValuesAreNotChanged(t *testing.T) {
	l := []impl.Value{textOf("a\x00b"), intOf(-5), boolOf(1), null()}
	kept := slices.Clone(l)
	impl.ValuesRight(l)
	impl.Compare(l, l)
	impl.KeyBytes(l)
	if !slices.Equal(l, kept) {
		t.Errorf("changed to %s", brief(l))
	}
	b := impl.KeyBytes(l)
	first := impl.KeyRead(b)
	first.Values[0] = intOf(9)
	sameValues(t, "read again", impl.KeyRead(b), kept, impl.OK)
}
