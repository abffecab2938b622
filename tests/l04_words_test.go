package tests

import (
	"fmt"
	"strings"
	"testing"

	"loop.example/g00551/impl"
)

const wordBytes = "abcdefghijklmnopqrstuvwxyzABCDEFGHIJKLMNOPQRSTUVWXYZ0123456789_-."

const longestWord = "aZ09_-.bcdefghijklmz"

var rightWords = []string{
	"", "a", "z", "A", "Z", "0", "9", "_", "-", ".", "...", "-a-", "_a", "9a", "a.b", "Max-Age", "00", "-1",
	"abcdefghijklmnopqrst", "uvwxyzABCDEFGHIJKLMN", "OPQRSTUVWXYZ01234567", longestWord, strings.Repeat(".", 20),
}

var wrongWords = []string{
	" ", "a b", " a", "a ", "=", "a=b", ";", "a;", ",", "a,b", "\"a\"", "a/b", "a:b", "a@b", "a[b", "a`b", "a{b", "a+b", "a^b", "a~",
	"\n", "a\n", "\t", "\x00", "a\x00", "\x7f", "\x80", "a\xff", "é", "aé", "ａ", "\u0130", "\u017f", "\u212a",
	longestWord + "z", "z" + longestWord, strings.Repeat("-", 21), tooLong, tooLong[:impl.MaxBytes], tooLong + tooLong,
}

func TestWords(t *testing.T) {
	for _, word := range rightWords {
		same(t, word, impl.WordRight(word), true)
	}
	for _, word := range wrongWords {
		same(t, shown(word), impl.WordRight(word), false)
	}
}

func TestWordsByByte(t *testing.T) {
	for i := range 256 {
		b := string([]byte{byte(i)})
		right := strings.Contains(wordBytes, b)
		for _, word := range []string{b, b + "a", "a" + b, "a" + b + "a", longestWord[:19] + b, b + longestWord[:19]} {
			same(t, "word "+word, impl.WordRight(word), right)
		}
	}
}

func TestWordsByLength(t *testing.T) {
	for size := range 60 {
		same(t, fmt.Sprint(size, " bytes"), impl.WordRight(strings.Repeat("a", size)), size <= 20)
	}
}
