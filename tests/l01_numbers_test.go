package tests

import (
	"encoding/binary"
	"math"
	"strings"
	"testing"

	"loop.example/g00551/impl"
)

// Promise 1: numbers, and texts that fit in, come back from their bytes.

// someNumbers: each power of 2 and its neighbours, above and below 0, so that
// each count of bytes and each step from one to the next is among them.
func someNumbers() []int64 {
	l := []int64{0, math.MaxInt64, math.MinInt64, math.MinInt64 + 1, 300, -300, 123456789, -987654321}
	for i := 0; i < 63; i++ {
		p := int64(1) << i
		l = append(l, p-1, p, p+1, -p+1, -p, -p-1)
	}
	for n := int64(-20000); n <= 20000; n++ {
		l = append(l, n)
	}
	return l
}

func TestNumberBytes(t *testing.T) {
	for _, c := range []struct {
		n    int64
		want string
	}{
		{0, "\x00"},
		{-1, "\x01"},
		{1, "\x02"},
		{-2, "\x03"},
		{63, "\x7e"},
		{-64, "\x7f"},
		{64, "\x80\x01"},
		{-65, "\x81\x01"},
		{150, "\xac\x02"},
		{8191, "\xfe\x7f"},
		{-8192, "\xff\x7f"},
		{8192, "\x80\x80\x01"},
		{1 << 61, "\x80\x80\x80\x80\x80\x80\x80\x80\x40"},
		{1<<62 - 1, "\xfe\xff\xff\xff\xff\xff\xff\xff\x7f"},
		{1 << 62, "\x80\x80\x80\x80\x80\x80\x80\x80\x80\x01"},
		{math.MaxInt64, "\xfe\xff\xff\xff\xff\xff\xff\xff\xff\x01"},
		{math.MinInt64, "\xff\xff\xff\xff\xff\xff\xff\xff\xff\x01"},
	} {
		same(t, "PutNum", impl.PutNum(c.n), c.want)
	}
}

func TestNumbersComeBack(t *testing.T) {
	for _, n := range someNumbers() {
		b := impl.PutNum(n)
		same(t, "PutNum", b, string(binary.AppendVarint(nil, n)))
		end := int64(len(b))
		same(t, "GetNum alone", impl.GetNum(b, 0), impl.NumOut{N: n, At: end})
		same(t, "GetNum within", impl.GetNum("\xff\x80"+b+"\x80\x01", 2), impl.NumOut{N: n, At: end + 2})
	}
}

func TestNumbersInARow(t *testing.T) {
	l := []int64{0, -1, 64, math.MinInt64, 5, math.MaxInt64, -8192}
	text := ""
	for _, n := range l {
		text += impl.PutNum(n)
	}
	at := int64(0)
	for _, n := range l {
		got := impl.GetNum(text, at)
		same(t, "number", got.N, n)
		same(t, "code", got.Code, int64(impl.OK))
		at = got.At
	}
	same(t, "the place behind the last one", at, int64(len(text)))
	same(t, "behind the last one", impl.GetNum(text, at), impl.NumOut{Code: impl.ErrShort})
}

// plainNum tells by the library what stands at the beginning of a text.
func plainNum(text string) impl.NumOut {
	n, count := binary.Varint([]byte(text))
	if count == 0 {
		if len(text) >= 10 {
			return impl.NumOut{Code: impl.ErrSyntax}
		}
		return impl.NumOut{Code: impl.ErrShort}
	}
	if count < 0 || string(binary.AppendVarint(nil, n)) != text[:count] {
		return impl.NumOut{Code: impl.ErrSyntax}
	}
	return impl.NumOut{N: n, At: int64(count)}
}

func TestNumbersOfAllShortTexts(t *testing.T) {
	same(t, "no byte", impl.GetNum("", 0), plainNum(""))
	for a := 0; a < 256; a++ {
		one := string([]byte{byte(a)})
		same(t, "one byte "+one, impl.GetNum(one, 0), plainNum(one))
		for b := 0; b < 256; b++ {
			two := string([]byte{byte(a), byte(b)})
			same(t, "two bytes "+two, impl.GetNum(two, 0), plainNum(two))
		}
	}
}

func TestNumbersOfEachLastByte(t *testing.T) {
	for _, head := range []string{"\x80", "\xff", "\x81"} {
		for count := 0; count < 13; count++ {
			begin := strings.Repeat(head, count)
			same(t, "a number cut off", impl.GetNum(begin, 0), plainNum(begin))
			for b := 0; b < 256; b++ {
				text := begin + string([]byte{byte(b)})
				same(t, "a number "+text, impl.GetNum(text, 0), plainNum(text))
			}
		}
	}
}

func TestNumberFaults(t *testing.T) {
	nine := strings.Repeat("\x80", 9)
	for _, c := range []struct {
		what string
		text string
		at   int64
		want int64
	}{
		{"a place below 0", "\x00", -1, impl.ErrForm},
		{"the least place", "\x00", math.MinInt64, impl.ErrForm},
		{"a place below 0 of no bytes", "", -1, impl.ErrForm},
		{"a place below 0 of a wrong number", "\x80\x00", -1, impl.ErrForm},
		{"no bytes", "", 0, impl.ErrShort},
		{"at the end", "\x00\x00", 2, impl.ErrShort},
		{"one behind the end", "\x00\x00", 3, impl.ErrShort},
		{"the greatest place", "\x00\x00", math.MaxInt64, impl.ErrShort},
		{"a place that wraps round in 32 bits", "\x00\x00", 1 << 32, impl.ErrShort},
		{"one byte of two", "\x80", 0, impl.ErrShort},
		{"nine bytes of ten", nine, 0, impl.ErrShort},
		{"needless noughts that end too early", "\x80\x80", 0, impl.ErrShort},
		{"two bytes for 0", "\x80\x00", 0, impl.ErrSyntax},
		{"two bytes for -1", "\x81\x00", 0, impl.ErrSyntax},
		{"ten bytes for 0", nine + "\x00", 0, impl.ErrSyntax},
		{"a tenth byte of 2", nine + "\x02", 0, impl.ErrSyntax},
		{"a tenth byte of 127", nine + "\x7f", 0, impl.ErrSyntax},
		{"a tenth byte of 128, at the end", nine + "\x80", 0, impl.ErrSyntax},
		{"a tenth byte of 129, and more", nine + "\x81\x00", 0, impl.ErrSyntax},
		{"eleven bytes", nine + "\x80\x01", 0, impl.ErrSyntax},
		{"too long", tooLong, 0, impl.ErrSize},
		{"too long, a place below 0", tooLong, -1, impl.ErrSize},
		{"too long, behind the end", tooLong, impl.MaxBytes + 5, impl.ErrSize},
		{"too long, a wrong number", "\x80\x00" + tooLong, 0, impl.ErrSize},
	} {
		same(t, "GetNum: "+c.what, impl.GetNum(c.text, c.at), impl.NumOut{Code: c.want})
		same(t, "GetText: "+c.what, impl.GetText(c.text, c.at), impl.TextOut{Code: c.want})
	}
}

func TestNumberInTheLongestText(t *testing.T) {
	text := strings.Repeat("\x80", impl.MaxBytes-1) + "\x05"
	same(t, "the last byte", impl.GetNum(text, impl.MaxBytes-1), impl.NumOut{N: -3, At: impl.MaxBytes})
	same(t, "its end", impl.GetNum(text, impl.MaxBytes), impl.NumOut{Code: impl.ErrShort})
}
