package tests

import (
	"cmp"
	"fmt"
	"iter"
	"maps"
	"runtime"
	"slices"
	"strconv"
	"testing"
	"unsafe"

	"loop.example/g00271/impl"
)

// same fails the test unless got is want, in all its fields.
func same[T comparable](t *testing.T, what string, got T, want T) {
	t.Helper()
	if got != want {
		t.Errorf("%s: got %s, want %s", what, brief(got), brief(want))
	}
}

// brief tells a thing in at most some 200 bytes, so that a wrong long text can still be read.
func brief(v any) string {
	return fmt.Sprintf("%.200s", fmt.Sprintf("%#v", v))
}

// byName tells what a map has by the order of its names, so that what is drawn on the way is the same each time.
func byName[T any](m map[string]T) iter.Seq2[string, T] {
	return func(yield func(string, T) bool) {
		for _, name := range slices.Sorted(maps.Keys(m)) {
			if !yield(name, m[name]) {
				return
			}
		}
	}
}

// span is where a list lies in memory, up to what it may grow into. It keeps the list: where one lay that nothing keeps, a later one may come to lie, and the two would seem to share memory.
type span struct {
	list unsafe.Pointer
	size uintptr
	what string
}

func spanOf[T any](l []T, what string) span {
	var one T
	return span{unsafe.Pointer(unsafe.SliceData(l)), uintptr(cap(l)) * unsafe.Sizeof(one), what}
}

// from and to are asked for when spans are held against each other, and not ahead of that: an address that is kept by itself keeps nothing.
func (s span) from() uintptr { return uintptr(s.list) }
func (s span) to() uintptr   { return s.from() + s.size }

// sharing tells two of these lists that share memory (nothing, if none do).
func sharing(spans []span) string {
	spans = slices.DeleteFunc(slices.Clone(spans), func(s span) bool { return s.size == 0 })
	slices.SortFunc(spans, func(a, b span) int { return cmp.Compare(a.from(), b.from()) })
	for i := 1; i < len(spans); i++ {
		if spans[i].from() < spans[i-1].to() {
			return spans[i-1].what + " and " + spans[i].what
		}
	}
	return ""
}

// spansApart fails the test, if two of these lists share memory.
func spansApart(t *testing.T, what string, spans []span) {
	t.Helper()
	if two := sharing(spans); two != "" {
		t.Errorf("%s: %s share memory", what, two)
	}
}

func TestSharedMemoryIsSeen(t *testing.T) {
	l := make([]int64, 8, 16)
	for what, other := range byName(map[string][]int64{"itself": l, "its front": l[:1:1], "a piece of it": l[3:4:4], "its end": l[7:8:8], "the room behind it": l[8:16], "the last of that room": l[15:16], "nothing yet": l[:0]}) {
		if sharing([]span{spanOf(other, "other"), spanOf(make([]int64, 3), "third"), spanOf(l, "list")}) == "" {
			t.Errorf("%s: not seen", what)
		}
	}
	spansApart(t, "beside each other", []span{spanOf(l[8:], "room"), spanOf(l[4:8:8], "end"), spanOf(l[:4:4], "front")})
	spansApart(t, "of no size", []span{spanOf(l, "list"), spanOf(l[16:16], "behind"), spanOf(l[3:3:3], "within"), spanOf([]int64(nil), "none")})
}

// Lists that nothing but their spans keeps are not taken for later ones.
func TestSpansKeepTheirLists(t *testing.T) {
	var spans []span
	for i := range 1000 {
		spans = append(spans, spanOf(make([]impl.Value, 1+i%40), "list "+strconv.Itoa(i)))
		if i%50 == 0 {
			runtime.GC()
		}
	}
	spansApart(t, "kept", spans)
}
