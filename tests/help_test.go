package tests

import (
	"cmp"
	"fmt"
	"iter"
	"maps"
	"slices"
	"testing"
	"unsafe"
)

// same fails the test unless got is want, in all its fields.
func same[T comparable](t *testing.T, what string, got T, want T) {
	t.Helper()
	if got != want {
		t.Errorf("%s: got %s, want %s", what, brief(got), brief(want))
	}
}

// brief tells a thing in at most some 200 bytes, so that a wrong long text can still be read.
func brief(v any) string {
	return fmt.Sprintf("%.200s", fmt.Sprintf("%#v", v))
}

// byName tells what a map has by the order of its names, so that what is drawn on the way is the same each time.
func byName[T any](m map[string]T) iter.Seq2[string, T] {
	return func(yield func(string, T) bool) {
		for _, name := range slices.Sorted(maps.Keys(m)) {
			if !yield(name, m[name]) {
				return
			}
		}
	}
}

// span is where a list lies in memory, up to what it may grow into.
type span struct {
	from, to uintptr
	what     string
}

func spanOf[T any](l []T, what string) span {
	var one T
	from := uintptr(unsafe.Pointer(unsafe.SliceData(l)))
	return span{from, from + uintptr(cap(l))*unsafe.Sizeof(one), what}
}

// spansApart fails the test, if two of these lists share memory.
func spansApart(t *testing.T, what string, spans []span) {
	t.Helper()
	spans = slices.DeleteFunc(spans, func(s span) bool { return s.from == s.to })
	slices.SortFunc(spans, func(a, b span) int { return cmp.Compare(a.from, b.from) })
	for i := 1; i < len(spans); i++ {
		if spans[i].from < spans[i-1].to {
			t.Errorf("%s: %s and %s share memory", what, spans[i-1].what, spans[i].what)
			return
		}
	}
}
