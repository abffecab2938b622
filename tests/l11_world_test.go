package tests

import (
	"fmt"
	"slices"
	"strings"
	"testing"

	"loop.example/g00551/impl"
)

// The world of a desk, its words, and whose memory answers are.

func TestDeskWorlds(t *testing.T) {
	want := impl.World{Rules: []string{"!city.uk", "*.uk", "com"}, Sets: setsOf("a.com:b.com", "c.com:city.uk")}
	got := impl.DeskWorld()
	sameWorld(t, "the world of a desk", got, want)
	same(t, "right", impl.WorldRight(got), true)
	same(t, "right by form", worldByForm(got), true)
	sameWorldOut(t, "WorldNew of the same", impl.WorldNew("com\n*.uk\n!city.uk", "a.com:b.com\nc.com:city.uk"), impl.WorldOut{World: got})
	sameWorldOut(t, "by form", newByForm("com\n*.uk\n!city.uk\n", "a.com:b.com\nc.com:city.uk\n"), impl.WorldOut{World: got})
	for host, domain := range map[string]string{"x.a.com": "a.com", "com": "", "shop.co.uk": "shop.co.uk", "co.uk": "", "x.city.uk": "city.uk", "a.b.io": "b.io"} {
		same(t, host, impl.SuffixOf(got.Rules, host).Domain, domain)
	}
	for _, pair := range []string{"https://a.com https://b.com", "https://city.uk https://c.com"} {
		a, b, _ := strings.Cut(pair, " ")
		same(t, pair, impl.Related(got.Rules, got.Sets, a, b), true)
	}
	same(t, "of two sets", impl.Related(got.Rules, got.Sets, "https://a.com", "https://c.com"), false)
}

func TestDeskWorldsAreNewMemory(t *testing.T) {
	want := impl.World{Rules: []string{"!city.uk", "*.uk", "com"}, Sets: setsOf("a.com:b.com", "c.com:city.uk")}
	first, second := impl.DeskWorld(), impl.DeskWorld()
	writeAll(first)
	sameWorld(t, "another call's", second, want)
	sameWorld(t, "the next call's", impl.DeskWorld(), want)
	ownLists(t, second, want)
	same(t, "a desk's", impl.DeskRun("open 0 https://x.city.uk/\nkey 1\n").Text, "frame 1\nhttps://x.city.uk^https://city.uk\n")
}

// deskWords: those of the table, rising.
var deskWords = []string{"ask", "box", "clear", "fetch", "go", "keep", "key", "look", "open", "pass", "set", "touch"}

func TestDeskWords(t *testing.T) {
	sameList(t, "the words", impl.DeskWords(), deskWords)
	for at := 1; at < len(deskWords); at++ {
		same(t, deskWords[at]+" is greater", impl.DeskWords()[at] > impl.DeskWords()[at-1], true)
	}
	// With each of them a line begins, and with no other word that is short.
	begun := map[string]bool{}
	for _, line := range deskLines {
		word, _, _ := strings.Cut(line, " ")
		begun[word] = true
	}
	same(t, "so many begin lines", len(begun), len(deskWords))
	for _, word := range deskWords {
		same(t, word+" begins one", begun[word], true)
	}
	for a := 'a'; a <= 'z'; a++ {
		for b := 'a'; b <= 'z'; b++ {
			for _, c := range " abcdefghijklmnopqrstuvwxyz" {
				word := strings.TrimSpace(string([]rune{a, b, c}))
				if !slices.Contains(deskWords, word) {
					same(t, word, impl.DeskFault(word+" 1\n"+word+" 1 n\n").Line, 0)
				}
			}
		}
	}
}

func TestDeskWordsAreNewMemory(t *testing.T) {
	first, second := impl.DeskWords(), impl.DeskWords()
	for i := range first {
		first[i] = "other"
	}
	_ = append(first, "other")
	_ = append(first[:3], "other")
	sameList(t, "another call's", second, deskWords)
	sameList(t, "the next call's", impl.DeskWords(), deskWords)
	isDesk(t, "pass 1\n", "ok\n")
	isNoDesk(t, "other 1\n", 0)
}

// What a text is made of is not changed, and what is told holds on to none of it.
func TestDesksAreNewMemory(t *testing.T) {
	run := func(text string) string {
		out := impl.DeskRun(text)
		fault := impl.DeskFault(text)
		same(t, shown(text), fault, impl.DeskOut{Line: out.Line, Code: out.Code})
		return out.Text
	}
	for _, text := range []string{
		"pass 1\n",
		"open 0 https://a.com/\nkeep 1 n value\nlook 1 n\n",
		"open 0 https://a.com/\nset 1 https://a.com/ n=value;Path=/\nfetch 1 https://a.com/\nkey 1\n",
		deskText(slices.Concat(deskHouse, []string{"keep 2 n v;w", "look 2 n", "touch 2", "ask 2 no", "fetch 2 https://b.com/", "clear 1 https://b.com/ 7", "go 1 https://b.com/", "key 1"})...),
		"open 0 https://a.com/\nx\n",
		"\n",
	} {
		staysAsItIs(t, shown(text), text, run)
	}
}

// A desk keeps nothing for the next one.
func TestDesksOneByOne(t *testing.T) {
	text := deskText(slices.Concat(deskHouse, []string{"keep 1 n v", "set 1 https://a.com/ n=1", "touch 2", "ask 2 no", "pass 5"})...)
	told := impl.DeskRun(text).Text
	for range 3 {
		isDesk(t, text, told)
		isDesk(t, "key 1\nlook 1 n\nopen 0 https://a.com/\nlook 1 n\nfetch 1 https://a.com/\n", "-\nerror 6\nframe 1\nerror 6\n0 -\n")
		isNoDesk(t, text+"x\n", int64(strings.Count(text, "\n")))
	}
}

// Whatever is given, each call answers.
func TestDesksOfAnything(t *testing.T) {
	for a := range 256 {
		for b := range 256 {
			pair := string([]byte{byte(a), byte(b)})
			line := int64(0)
			if a == '\n' {
				// An empty line is none.
				isNoDesk(t, pair, line)
				continue
			}
			isNoDesk(t, pair, line)
			isNoDesk(t, pair+"\n", line)
		}
	}
	for _, part := range []string{"", "\x00", "\xff", "\n", " ", "é", "1", "open", "open ", "open 0", "pass 1\n", "ask 1 yes\n", "key 0", ";", "=", "999999999 "} {
		for _, other := range []string{"", "\x00", "\xff", "\n", " ", "é", "1", "\nopen 0 ", "x\n", " https://a.com/\n", "key 0\n"} {
			for _, count := range []int{1, 2, 3, 39, 40, 41, 400} {
				text := strings.Repeat(part+other, count)
				want := deskByForm(text)
				same(t, fmt.Sprint(shown(text), count), impl.DeskRun(text), want)
				want.Text = ""
				same(t, fmt.Sprint(shown(text), count, ": fault"), impl.DeskFault(text), want)
			}
		}
	}
}
