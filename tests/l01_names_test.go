package tests

import (
	"strings"
	"testing"

	"loop.example/g00551/impl"
)

func TestNamesByLength(t *testing.T) {
	same(t, "the empty text", impl.NameRight(""), false)
	for size := 1; size <= 20; size++ {
		same(t, "1 to 20 bytes", impl.NameRight(strings.Repeat("z", size)), true)
	}
	same(t, "20 bytes of each kind", impl.NameRight("a_0123456789bcdefg_z"), true)
	same(t, "21 bytes", impl.NameRight(strings.Repeat("z", 21)), false)
	same(t, "MaxBytes bytes", impl.NameRight(tooLong[1:]), false)
	same(t, "one byte more than MaxBytes", impl.NameRight(tooLong), false)
}

func TestNamesByByte(t *testing.T) {
	const small = "abcdefghijklmnopqrstuvwxyz"
	for i := 0; i < 256; i++ {
		b := string([]byte{byte(i)})
		first := strings.Contains(small, b)
		later := strings.Contains(small+"0123456789_", b)
		same(t, "alone: "+b, impl.NameRight(b), first)
		same(t, "first: "+b, impl.NameRight(b+"bc"), first)
		same(t, "second: "+b, impl.NameRight("a"+b+"c"), later)
		same(t, "last: "+b, impl.NameRight("ab"+b), later)
		same(t, "twentieth: "+b, impl.NameRight(strings.Repeat("a", 19)+b), later)
	}
}

func TestNamesOfWholeWords(t *testing.T) {
	for _, name := range []string{"a", "a_9", "a1", "a__", "name", "z0_"} {
		same(t, name, impl.NameRight(name), true)
	}
	for _, name := range []string{"_a", "9a", "A", "aB", "a b", "a-b", "a.b", " a", "a\n", "é", "aé", "a\x00"} {
		same(t, name, impl.NameRight(name), false)
	}
}
