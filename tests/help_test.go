package tests

import (
	"fmt"
	"testing"
)

// same fails the test unless got is want, in all its fields.
func same[T comparable](t *testing.T, what string, got T, want T) {
	t.Helper()
	if got != want {
		t.Errorf("%s: got %s, want %s", what, brief(got), brief(want))
	}
}

// brief tells a thing in at most some 200 bytes, so that a wrong long text can still be read.
func brief(v any) string {
	return fmt.Sprintf("%.200s", fmt.Sprintf("%#v", v))
}
