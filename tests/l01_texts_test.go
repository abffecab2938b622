package tests

import (
	"testing"

	"loop.example/g00551/impl"
)

// Promise 1: numbers, and texts that fit in, come back from their bytes.

func TestTextBytes(t *testing.T) {
	same(t, "the empty text", impl.PutText(""), "\x00")
	same(t, "a short text", impl.PutText("ab"), "\x04ab")
	same(t, "63 bytes", impl.PutText(textOf(63)), "\x7e"+textOf(63))
	same(t, "64 bytes", impl.PutText(textOf(64)), "\x80\x01"+textOf(64))
	same(t, "MaxBytes bytes", impl.PutText(textOf(impl.MaxBytes)), "\x80\x7d"+textOf(impl.MaxBytes))
	same(t, "one more", impl.PutText(textOf(impl.MaxBytes+1)), "")
}

func TestTextsComeBack(t *testing.T) {
	// 7998 bytes and the two of their length are MaxBytes.
	for _, size := range []int{0, 1, 2, 62, 63, 64, 65, 255, 256, 4000, impl.MaxBytes - 3, impl.MaxBytes - 2} {
		text := textOf(size)
		b := impl.PutText(text)
		same(t, "alone", impl.GetText(b, 0), impl.TextOut{Text: text, At: int64(len(b))})
	}
	for _, text := range []string{"", "a", "ab c", "\x00", "\xff\xfe", "grün", textOf(200)} {
		b := impl.PutText(text)
		got := impl.GetText("\x80\x80\x05"+b+"\x02x", 3)
		same(t, "within", got, impl.TextOut{Text: text, At: int64(3 + len(b))})
	}
}

func TestTextsThatFitInNoMore(t *testing.T) {
	for _, size := range []int{impl.MaxBytes - 1, impl.MaxBytes} {
		b := impl.PutText(textOf(size))
		same(t, "longer than MaxBytes with its length", impl.GetText(b, 0), impl.TextOut{Code: impl.ErrSize})
	}
}

func TestTextsInARow(t *testing.T) {
	text := impl.PutText("one") + impl.PutText("") + impl.PutText("three")
	same(t, "first", impl.GetText(text, 0), impl.TextOut{Text: "one", At: 4})
	same(t, "second", impl.GetText(text, 4), impl.TextOut{At: 5})
	same(t, "third", impl.GetText(text, 5), impl.TextOut{Text: "three", At: 11})
	same(t, "fourth", impl.GetText(text, 11), impl.TextOut{Code: impl.ErrShort})
}

func TestTextFaults(t *testing.T) {
	for _, c := range []struct {
		what string
		text string
		want int64
	}{
		{"one byte too few", "\x04a", impl.ErrShort},
		{"a length alone", "\x02", impl.ErrShort},
		{"a length of MaxBytes alone", impl.PutNum(impl.MaxBytes), impl.ErrShort},
		{"a length of one more, alone", impl.PutNum(impl.MaxBytes + 1), impl.ErrSyntax},
		{"a length of one more, and bytes", impl.PutNum(impl.MaxBytes+1) + textOf(7990), impl.ErrSyntax},
		{"the greatest length", impl.PutNum(1<<63 - 1), impl.ErrSyntax},
		{"a length of -1, alone", impl.PutNum(-1), impl.ErrSyntax},
		{"a length of -1, and bytes", impl.PutNum(-1) + "abc", impl.ErrSyntax},
		{"the least length", impl.PutNum(-1 << 63), impl.ErrSyntax},
		{"a length in more bytes than are needed", "\x84\x00ab", impl.ErrSyntax},
		{"such a one, too short as well", "\x84\x00", impl.ErrSyntax},
		{"a length that ends too early", "\x84", impl.ErrShort},
	} {
		same(t, c.what, impl.GetText(c.text, 0), impl.TextOut{Code: c.want})
	}
}

func TestTextFaultsAtEachCut(t *testing.T) {
	b := impl.PutText(textOf(100))
	for cut := range len(b) {
		same(t, "cut off", impl.GetText(b[:cut], 0), impl.TextOut{Code: impl.ErrShort})
	}
}

func TestTextsAreNewMemory(t *testing.T) {
	staysAsItIs(t, "PutText", "some text", impl.PutText)
	staysAsItIs(t, "GetText", "\x08text", func(s string) string { return impl.GetText(s, 0).Text })
	staysAsItIs(t, "Seal", "some text", impl.Seal)
	staysAsItIs(t, "Unseal", impl.Seal("some text"), func(s string) string { return impl.Unseal(s).Text })
}
