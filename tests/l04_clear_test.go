package tests

import (
	"strings"
	"testing"

	"loop.example/g00551/impl"
)

// Promise 8: what is to be cleared comes back from its text.

// clearTexts: the text of each sum, at its place.
var clearTexts = [8]string{
	``,
	`"cache"`,
	`"cookies"`,
	`"cache", "cookies"`,
	`"storage"`,
	`"cache", "storage"`,
	`"cookies", "storage"`,
	`"*"`,
}

func TestClearsComeBack(t *testing.T) {
	for kinds := range int64(8) {
		same(t, "text", impl.ClearText(kinds), clearTexts[kinds])
		same(t, clearTexts[kinds], impl.ClearRead(clearTexts[kinds]), kinds)
	}
}

func TestClearsBySum(t *testing.T) {
	for mask := range int64(8) {
		var kinds int64
		for _, kind := range []int64{impl.ClCache, impl.ClCookies, impl.ClStorage} {
			kinds += kind & mask
		}
		same(t, "a sum", impl.ClearText(kinds), clearTexts[mask])
	}
}

func TestClearsThatAreNone(t *testing.T) {
	for _, kinds := range []int64{-1 << 63, -1 << 32, -8, -7, -4, -2, -1, 8, 9, 10, 12, 15, 16, 255, 256 + 1, 1<<32 + 1, 1<<63 - 1} {
		same(t, shown(kinds), impl.ClearText(kinds), "")
	}
}

// clearReads: texts that ClearText does not write, with their sums.
var clearReads = []struct {
	text string
	want int64
}{
	{`"cache", "cookies", "storage"`, 7},
	{`"storage", "cookies", "cache"`, 7},
	{`"storage", "cache"`, 5},
	// Twice is once.
	{`"cache", "cache"`, 1},
	{`"cookies", "cookies"`, 2},
	{`"storage","storage","storage"`, 4},
	{`"cache", "cookies", "cache"`, 3},
	{`"*", "*"`, 7},
	{`"*", "cache"`, 7},
	{`"cookies", "*", "storage"`, 7},
	// Without their quotes, or with others.
	{`cache`, 0},
	{`*`, 0},
	{`cache, "cookies", storage`, 2},
	{`"cache`, 0},
	{`cache"`, 0},
	{`'cache'`, 0},
	{`""cache""`, 0},
	{`"cache""cookies"`, 0},
	{`"cache" "cookies"`, 0},
	{`"cache,cookies"`, 0},
	{`"cache, cookies", "storage"`, 4},
	{`“cache”`, 0},
	// Unknown ones.
	{`"x"`, 0},
	{`""`, 0},
	{`"x", "cache", "y"`, 1},
	{`"executionContexts", "storage"`, 4},
	{`"Cache"`, 0},
	{`"COOKIES", "cookies"`, 2},
	{`"cach"`, 0},
	{`"caches"`, 0},
	{`"cookie"`, 0},
	{`"storages"`, 0},
	{`"**"`, 0},
	{`"all"`, 0},
	{`7`, 0},
	// Blanks around and none.
	{`"cache","cookies"`, 3},
	{`  "cache"  ,  "cookies"  `, 3},
	{` "cookies","x", "storage"`, 6},
	{`"cache" ,"storage"`, 5},
	{` "*" `, 7},
	{`" cache"`, 0},
	{`"cache "`, 0},
	{`" * "`, 0},
	{`"ca che"`, 0},
	{"\"cache\"\t", 0},
	{"\"cache\"\n,\"cookies\"", 2},
	{"\t\"cache\", \"storage\"\r\n", 0},
	{"\u00a0\"cache\"", 0},
	// Empty places.
	{``, 0},
	{` `, 0},
	{`,`, 0},
	{`,,,`, 0},
	{` , , `, 0},
	{`,"cache"`, 1},
	{`"cache",`, 1},
	{`"cache",,"storage"`, 5},
	{`"cache", , "storage"`, 5},
	{`,,"*",,`, 7},
	// Other marks between.
	{`"cache"; "cookies"`, 0},
	{`"cache";"cookies", "storage"`, 4},
	{`"cache"|"cookies"`, 0},
	// Bytes of all kinds.
	{"\x00", 0},
	{"\"cache\"\x00", 0},
	{"\xff, \"cookies\"", 2},
}

func TestClearReads(t *testing.T) {
	for _, c := range clearReads {
		same(t, c.text, impl.ClearRead(c.text), c.want)
	}
}

func TestClearReadsByByte(t *testing.T) {
	for i := range 256 {
		b := string([]byte{byte(i)})
		var around, between int64
		switch b {
		case " ":
			around = 3
		case ",":
			around, between = 3, 3
		}
		same(t, "around: "+b, impl.ClearRead(b+`"cache"`+b+","+b+`"cookies"`+b), around)
		same(t, "between: "+b, impl.ClearRead(`"cache"`+b+`"cookies"`), between)
	}
}

// TestClearReadsByWords: up to three words, in all orders, with twins.
func TestClearReadsByWords(t *testing.T) {
	words := []struct {
		word string
		bits int64
	}{{`"cache"`, 1}, {`"cookies"`, 2}, {`"storage"`, 4}, {`"*"`, 7}, {`"x"`, 0}, {``, 0}, {`storage`, 0}}
	for _, a := range words {
		for _, b := range words {
			for _, c := range words {
				for _, mark := range []string{",", ", ", " ,", "  ,   "} {
					text := a.word + mark + b.word + mark + c.word
					same(t, text, impl.ClearRead(text), a.bits|b.bits|c.bits)
				}
			}
		}
	}
}

func TestClearReadsBySize(t *testing.T) {
	for size := impl.MaxBytes - 2; size < impl.MaxBytes+3; size++ {
		const first, last = `"cache",`, `"storage"`
		for _, fill := range []string{" ", ",", "x"} {
			text := first + strings.Repeat(fill, size-len(first)-len(last)-1) + "," + last
			want := int64(5)
			if size > impl.MaxBytes {
				want = 0
			}
			same(t, shown(text), impl.ClearRead(text), want)
		}
	}
	same(t, "more places than a list may have", impl.ClearRead(strings.Repeat(`"*",`, impl.MaxBytes/4)), 7)
}

func TestClearReadsLeaveTheText(t *testing.T) {
	staysAsItIs(t, "ClearRead", ` "cache" , "*","x" `, func(s string) string { return impl.ClearText(impl.ClearRead(s)) })
}
