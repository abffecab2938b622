package tests

import (
	"fmt"
	"strings"
	"testing"
	"unsafe"

	"loop.example/g00551/impl"
)

func same[T comparable](t *testing.T, what string, got T, want T) {
	t.Helper()
	if got != want {
		t.Errorf("%q: got %s, want %s", what, shown(got), shown(want))
	}
}

func shown(x any) string {
	s := fmt.Sprintf("%#v", x)
	if len(s) > 200 {
		return s[:200] + " .."
	}
	return s
}

// textOf makes a text of that many bytes in which neighbours differ, so that a
// piece of it that is one byte off is seen.
func textOf(size int) string {
	b := make([]byte, size)
	for i := range b {
		b[i] = byte(i*7 + i/256)
	}
	return string(b)
}

var tooLong = strings.Repeat("a", impl.MaxBytes+1)

// staysAsItIs hands in a text whose bytes are turned behind the call: an answer
// that shares memory with it would turn, too.
func staysAsItIs(t *testing.T, what string, text string, call func(string) string) {
	t.Helper()
	b := []byte(text)
	got := call(unsafe.String(&b[0], len(b)))
	same(t, what+": what was handed in", string(b), text)
	for i := range b {
		b[i] ^= 255
	}
	same(t, what+": the answer behind the call", got, call(text))
}
