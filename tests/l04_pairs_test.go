package tests

import (
	"fmt"
	"regexp"
	"slices"
	"strings"
	"testing"
	"unsafe"

	"loop.example/g00551/impl"
)

// Promise 7: pairs come back from their text.

// pairLists: right ones, with their texts.
var pairLists = []struct {
	pairs []impl.Pair
	text  string
}{
	{nil, ""},
	{[]impl.Pair{}, ""},
	{[]impl.Pair{{Name: "a", Value: "1"}}, "a=1"},
	{[]impl.Pair{{Name: "a"}}, "a="},
	{[]impl.Pair{{Name: "a", Value: "1"}, {Name: "b"}}, "a=1; b="},
	{[]impl.Pair{{Name: "a"}, {Name: "b"}}, "a=; b="},
	{[]impl.Pair{{Name: "b", Value: "2"}, {Name: "a", Value: "1"}}, "b=2; a=1"},
	{[]impl.Pair{{Name: "a", Value: "1"}, {Name: "a", Value: "2"}}, "a=1; a=2"},
	{[]impl.Pair{{Name: "a", Value: "1"}, {Name: "a", Value: "1"}}, "a=1; a=1"},
	{[]impl.Pair{{Name: "a"}, {Name: "a"}, {Name: "a"}}, "a=; a=; a="},
	{[]impl.Pair{{Name: "Path", Value: "Secure"}, {Name: "-", Value: "."}}, "Path=Secure; -=."},
	{[]impl.Pair{{Name: longestWord, Value: longestWord}, {Name: "z"}}, longestWord + "=" + longestWord + "; z="},
}

var wrongPairs = []impl.Pair{{}, {Value: "1"}, {Name: "a b"}, {Name: "a", Value: "1;"}, {Name: "a", Value: "="}}

// manyPairs: so many right ones, and their text.
func manyPairs(count int, value string) ([]impl.Pair, string) {
	var l []impl.Pair
	var texts []string
	for i := range count {
		p := impl.Pair{Name: fmt.Sprint("n", i), Value: value}
		l = append(l, p)
		texts = append(texts, p.Name+"="+p.Value)
	}
	return l, strings.Join(texts, "; ")
}

func samePairs(t *testing.T, what string, got impl.PairsOut, pairs []impl.Pair, code int64) {
	t.Helper()
	if got.Code != code || !slices.Equal(got.Pairs, pairs) {
		t.Errorf("%s: got %s, want %s and %d", shown(what), shown(got), shown(pairs), code)
	}
}

func TestPairsComeBack(t *testing.T) {
	for _, c := range pairLists {
		same(t, "text", impl.PairsText(c.pairs), c.text)
		samePairs(t, c.text, impl.PairsRead(c.text), c.pairs, impl.OK)
	}
}

func TestPairsByCount(t *testing.T) {
	for _, value := range []string{"", "v", longestWord} {
		for count := range 60 {
			l, text := manyPairs(count, value)
			if count <= 20 {
				same(t, "text", impl.PairsText(l), text)
				samePairs(t, text, impl.PairsRead(text), l, impl.OK)
			} else {
				same(t, "text", impl.PairsText(l), "")
				samePairs(t, text, impl.PairsRead(text), nil, impl.ErrSyntax)
			}
		}
	}
	for _, count := range []int{impl.MaxList, impl.MaxList + 1} {
		l, text := manyPairs(count, "")
		same(t, fmt.Sprint(count, " pairs"), impl.PairsText(l), "")
		samePairs(t, text, impl.PairsRead(text), nil, impl.ErrSyntax)
	}
}

func TestPairsThatAreWrong(t *testing.T) {
	right := impl.Pair{Name: "a", Value: "1"}
	for _, p := range wrongPairs {
		for _, l := range [][]impl.Pair{{p}, {p, right}, {right, p}, {right, p, right}, {p, p}} {
			same(t, shown(l), impl.PairsText(l), "")
		}
		l, _ := manyPairs(20, "v")
		l[19] = p
		same(t, shown(l), impl.PairsText(l), "")
	}
}

func TestPairsByTheirWords(t *testing.T) {
	for _, word := range rightWords {
		named, valued := []impl.Pair{{Name: word, Value: "v"}}, []impl.Pair{{Name: "n", Value: word}}
		same(t, word, impl.PairsText(valued), "n="+word)
		samePairs(t, word, impl.PairsRead("n="+word), valued, impl.OK)
		if word == "" {
			same(t, "no name", impl.PairsText(named), "")
			samePairs(t, "no name", impl.PairsRead("=v"), nil, impl.ErrSyntax)
			continue
		}
		same(t, word, impl.PairsText(named), word+"=v")
		samePairs(t, word, impl.PairsRead(word+"=v"), named, impl.OK)
	}
	for _, word := range wrongWords {
		same(t, shown(word), impl.PairsText([]impl.Pair{{Name: word, Value: "v"}}), "")
		same(t, shown(word), impl.PairsText([]impl.Pair{{Name: "n", Value: word}}), "")
		if len(word) < impl.MaxBytes && !strings.Contains(word, "=") {
			samePairs(t, word, impl.PairsRead(word+"=v"), nil, impl.ErrSyntax)
			samePairs(t, word, impl.PairsRead("n="+word), nil, impl.ErrSyntax)
		}
	}
}

var wrongPairTexts = []string{
	"=", "=1", "a", "a1", " ", ";", "; ", " a=1", "a=1 ", "a =1", "a= 1", "a==1", "a=1=2", "a=1=", "a=1\n", "\n",
	"a=1;", "a=1; ", "a=1;  ", "; a=1", ";a=1", "a=1;b=2", "a=1;  b=2", "a=1 ; b=2", "a=1;\tb=2", "a=1;\nb=2", "a=1, b=2", "a=1,b=2", "a=1; b=2;c=3", "a=1;b=2; c=3",
	"a=1; b", "a; b=2", "a=1; =2", "=1; b=2", "a=1; ; b=2", "a=1; b=2; ", "a=1; b=2;", "a=1; =", "=; =", "a=1; b=2 ",
	"a=é", "é=1", "a\x80=1", "a=\xff", "a=1\x00", "a=1; b=\x00", "a,b=1", "a=\"1\"", "a b=1", "a=1; b c=2", "a/b=1", "Cookie: a=1",
	longestWord + "z=1", "a=" + longestWord + "z", "a=1; b=" + longestWord + "z",
}

func TestPairTextsThatAreWrong(t *testing.T) {
	for _, text := range wrongPairTexts {
		samePairs(t, text, impl.PairsRead(text), nil, impl.ErrSyntax)
	}
}

func TestPairTextsBySize(t *testing.T) {
	for _, head := range []string{"", "a=", "a=1; b=", "; ", "="} {
		long := head + tooLong
		samePairs(t, head+": MaxBytes bytes", impl.PairsRead(long[:impl.MaxBytes]), nil, impl.ErrSyntax)
		samePairs(t, head+": one more", impl.PairsRead(long[:impl.MaxBytes+1]), nil, impl.ErrSize)
		samePairs(t, head+": all", impl.PairsRead(long), nil, impl.ErrSize)
	}
	for _, part := range []string{"; ", "; a=1", "; a=", ";", "="} {
		long := "a=1" + strings.Repeat(part, impl.MaxBytes)
		samePairs(t, part+" again and again", impl.PairsRead(long[:impl.MaxBytes]), nil, impl.ErrSyntax)
		samePairs(t, part+" once more", impl.PairsRead(long[:impl.MaxBytes+1]), nil, impl.ErrSize)
	}
}

// pairForm is what the document says of one pair, in one piece.
var pairForm = regexp.MustCompile(`^([a-zA-Z0-9_.-]{1,20})=([a-zA-Z0-9_.-]{0,20})$`)

func pairsByForm(text string) ([]impl.Pair, int64) {
	if text == "" {
		return nil, impl.OK
	}
	var l []impl.Pair
	for _, part := range strings.Split(text, "; ") {
		m := pairForm.FindStringSubmatch(part)
		if m == nil || len(l) == 20 {
			return nil, impl.ErrSyntax
		}
		l = append(l, impl.Pair{Name: m[1], Value: m[2]})
	}
	return l, impl.OK
}

func TestPairTextsWithOneByteTurned(t *testing.T) {
	check := func(text string) {
		t.Helper()
		l, code := pairsByForm(text)
		samePairs(t, text, impl.PairsRead(text), l, code)
	}
	_, full := manyPairs(20, "v")
	texts := []string{full}
	for _, c := range pairLists {
		texts = append(texts, c.text)
	}
	for _, text := range texts {
		for at := range len(text) + 1 {
			check(text[:at])
			for i := range 256 {
				b := string([]byte{byte(i)})
				check(text[:at] + b + text[at:])
				if at < len(text) {
					check(text[:at] + b + text[at+1:])
				}
			}
			if at < len(text) {
				check(text[:at] + text[at+1:])
			}
		}
	}
}

func TestPairsAreNewMemory(t *testing.T) {
	const text = "ab=cd; e=f; g="
	want := []impl.Pair{{Name: "ab", Value: "cd"}, {Name: "e", Value: "f"}, {Name: "g"}}
	b := []byte(text)
	got := impl.PairsRead(unsafe.String(&b[0], len(b)))
	same(t, "what was handed in", string(b), text)
	clear(b)
	samePairs(t, "what was read, behind the call", got, want, impl.OK)
	got.Pairs[0].Name = "other"
	samePairs(t, "the next call", impl.PairsRead(text), want, impl.OK)

	for count, want := range []string{"", "ab=", "ab=; c=def"} {
		fields := []byte("abcdef")
		l := []impl.Pair{{Name: unsafe.String(&fields[0], 2)}, {Name: unsafe.String(&fields[2], 1), Value: unsafe.String(&fields[3], 3)}}[:count]
		held := slices.Clone(l)
		written := impl.PairsText(l)
		same(t, "the pairs handed in", slices.Equal(l, held), true)
		same(t, "what was handed in", string(fields), "abcdef")
		clear(fields)
		same(t, "what was written, behind the call", written, want)
	}
}
