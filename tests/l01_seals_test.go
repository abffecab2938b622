package tests

import (
	"hash/crc32"
	"math"
	"testing"

	"loop.example/g00551/impl"
)

// Promise 2: a sealed text comes back; with one byte turned it is refused; a
// CRC goes on from text to text.

// Two texts whose CRC stands at the ends of what one may be.
const (
	crcLeast    = "\x9d\x0a\xd9\x6d"
	crcGreatest = "\xff\xff\xff\xff"
)

func plainCrc(text string) int64 {
	return int64(crc32.ChecksumIEEE([]byte(text)))
}

func TestCrc(t *testing.T) {
	same(t, "the empty text", impl.Crc(""), 0)
	same(t, "nine digits", impl.Crc("123456789"), 0xCBF43926)
	same(t, "a CRC of 0", impl.Crc(crcLeast), 0)
	same(t, "a CRC of 2^32-1", impl.Crc(crcGreatest), math.MaxUint32)
	for b := 0; b < 256; b++ {
		one := string([]byte{byte(b)})
		same(t, "one byte", impl.Crc(one), plainCrc(one))
	}
	for _, size := range []int{2, 3, 4, 5, 100, 255, 1000, impl.MaxBytes - 1, impl.MaxBytes} {
		same(t, "a text", impl.Crc(textOf(size)), plainCrc(textOf(size)))
	}
	same(t, "one byte more than MaxBytes", impl.Crc(tooLong), 0)
}

func TestCrcGoesOn(t *testing.T) {
	text := textOf(120)
	for cut := 0; cut <= len(text); cut++ {
		got := impl.CrcMore(impl.Crc(text[:cut]), text[cut:])
		same(t, "of two pieces", got, plainCrc(text))
		for later := cut; later <= len(text); later += 13 {
			of2 := impl.CrcMore(impl.Crc(text[:cut]), text[cut:later])
			same(t, "of three pieces", impl.CrcMore(of2, text[later:]), plainCrc(text))
		}
	}
	long := textOf(impl.MaxBytes)
	same(t, "of more than MaxBytes together", impl.CrcMore(impl.Crc(long), long), plainCrc(long+long))
}

func TestCrcMoreAtTheEnds(t *testing.T) {
	for _, head := range []string{"", crcLeast, crcGreatest, "abc"} {
		crc := plainCrc(head)
		same(t, "nothing more", impl.CrcMore(crc, ""), crc)
		same(t, "one byte more", impl.CrcMore(crc, "x"), plainCrc(head+"x"))
		same(t, "MaxBytes more", impl.CrcMore(crc, textOf(impl.MaxBytes)), plainCrc(head+textOf(impl.MaxBytes)))
		same(t, "too much more", impl.CrcMore(crc, tooLong), 0)
	}
	for _, crc := range []int64{-1, -2, math.MinInt64, 1 << 32, 1<<32 + 1, math.MaxInt64} {
		for _, text := range []string{"", "a", textOf(50), tooLong} {
			same(t, "a crc that is none", impl.CrcMore(crc, text), 0)
		}
	}
}

func TestSealBytes(t *testing.T) {
	same(t, "the empty text", impl.Seal(""), "\x00\x00\x00\x00")
	same(t, "nine digits", impl.Seal("123456789"), "123456789\x26\x39\xf4\xcb")
	same(t, "a CRC of 0", impl.Seal(crcLeast), crcLeast+"\x00\x00\x00\x00")
	same(t, "a CRC of 2^32-1", impl.Seal(crcGreatest), crcGreatest+"\xff\xff\xff\xff")
	same(t, "one byte too many", impl.Seal(textOf(impl.MaxBytes-3)), "")
	same(t, "MaxBytes bytes", impl.Seal(textOf(impl.MaxBytes)), "")
	same(t, "more than MaxBytes", impl.Seal(tooLong), "")
}

func TestSealedTextsComeBack(t *testing.T) {
	for _, text := range []string{"", "a", "ab", "abc", "abcd", "\x00", crcLeast, crcGreatest,
		textOf(500), textOf(impl.MaxBytes - 5), textOf(impl.MaxBytes - 4)} {
		seal := impl.Seal(text)
		same(t, "how long it is", len(seal), len(text)+4)
		same(t, "Unseal", impl.Unseal(seal), impl.TextOut{Text: text})
	}
	same(t, "sealed twice", impl.Unseal(impl.Seal(impl.Seal("ab"))), impl.TextOut{Text: impl.Seal("ab")})
}

func TestTurnedSealsAreRefused(t *testing.T) {
	for _, text := range []string{"", "a", "abc", crcLeast, crcGreatest, textOf(40)} {
		seal := []byte(impl.Seal(text))
		for place := range seal {
			for turn := 1; turn < 256; turn++ {
				seal[place] ^= byte(turn)
				same(t, "one byte turned", impl.Unseal(string(seal)), impl.TextOut{Code: impl.ErrSum})
				seal[place] ^= byte(turn)
			}
		}
	}
	seal := []byte(impl.Seal(textOf(impl.MaxBytes - 4)))
	for place := 0; place < len(seal); place += 97 {
		seal[place] ^= 1
		same(t, "one byte of the longest turned", impl.Unseal(string(seal)), impl.TextOut{Code: impl.ErrSum})
		seal[place] ^= 1
	}
}

func TestUnsealFaults(t *testing.T) {
	for _, c := range []struct {
		what string
		text string
		want int64
	}{
		{"no byte", "", impl.ErrShort},
		{"one byte", "a", impl.ErrShort},
		{"three bytes", "\x00\x00\x00", impl.ErrShort},
		{"four bytes that are no seal", "abcd", impl.ErrSum},
		{"the bytes of the CRC turned round", "123456789\xcb\xf4\x39\x26", impl.ErrSum},
		{"the first byte cut off", impl.Seal("some text")[1:], impl.ErrSum},
		{"the last byte cut off", impl.Seal("some text")[:12], impl.ErrSum},
		{"one byte more", impl.Seal("some text") + "\x00", impl.ErrSum},
		{"MaxBytes bytes that are no seal", textOf(impl.MaxBytes), impl.ErrSum},
		{"one byte more than MaxBytes", tooLong, impl.ErrSize},
		{"one byte more than MaxBytes, and its CRC fits", sealOf(textOf(impl.MaxBytes - 3)), impl.ErrSize},
	} {
		same(t, c.what, impl.Unseal(c.text), impl.TextOut{Code: c.want})
	}
}

// sealOf makes seals of texts that Seal refuses, too.
func sealOf(text string) string {
	crc := plainCrc(text)
	return text + string([]byte{byte(crc), byte(crc >> 8), byte(crc >> 16), byte(crc >> 24)})
}
