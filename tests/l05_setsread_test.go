package tests

import (
	"fmt"
	"math/rand"
	"slices"
	"strings"
	"testing"
	"unsafe"

	"loop.example/g00551/impl"
)

// setReads: by siteRules, the lines of the sets that a text tells.
var setReads = []struct {
	what string
	text string
	want []string
}{
	{"the empty text", "", nil},
	{"a line feed alone", "\n", nil},
	{"empty lines alone", "\n\n\n", nil},
	{"one with a line feed", "a.com:b.com\n", []string{"a.com:b.com"}},
	{"one without a line feed", "a.com:b.com", []string{"a.com:b.com"}},
	{"a line feed ahead", "\na.com:b.com", []string{"a.com:b.com"}},
	{"empty lines between", "\n\na.com:b.com\n\n\nc.com:d.com\n\n", []string{"a.com:b.com", "c.com:d.com"}},
	{"two, the last one without a line feed", "a.com:b.com\nc.com:d.com", []string{"a.com:b.com", "c.com:d.com"}},
	{"out of order", "e.com:f.com\na.com:b.com\nc.com:d.com\n", []string{"a.com:b.com", "c.com:d.com", "e.com:f.com"}},
	{"out of order by their ends", "a.com:z.com\na.co:y.com\n", []string{"a.co:y.com", "a.com:z.com"}},
	{"members above and below", "m.com:a.com,z.com\nb.com:y.com\n", []string{"b.com:y.com", "m.com:a.com,z.com"}},
	{"four members", "a.com:b.com,c.com,d.com,e.com", []string{"a.com:b.com,c.com,d.com,e.com"}},
	{"five members", "a.com:b.com,c.com,d.com,e.com,f.com\n", nil},
	{"five members, the last one empty", "a.com:b.com,c.com,d.com,e.com,\n", nil},
	{"five members, then others of these", "a.com:b.com,c.com,d.com,e.com,f.com\na.com:b.com\n", []string{"a.com:b.com"}},
	{"no mark", "a.com\nb.com\n", nil},
	{"no mark, but a break", "a.com,b.com\n", nil},
	{"two marks", "a.com:b.com:c.com\n", nil},
	{"two marks side by side", "a.com::b.com\n", nil},
	{"a mark at the end, too", "a.com:b.com:\n", nil},
	{"a mark at the begin, too", ":a.com:b.com\n", nil},
	{"a mark behind a break", "a.com:b.com,c.com:d.com\n", nil},
	{"a break ahead of the mark", "a.com,b.com:c.com\n", nil},
	{"a mark alone", ":\n", nil},
	{"nothing ahead of the mark", ":b.com\n", nil},
	{"nothing behind the mark", "a.com:\n", nil},
	{"a break alone behind the mark", "a.com:,\n", nil},
	{"a break first", "a.com:,b.com\n", nil},
	{"a break last", "a.com:b.com,\n", nil},
	{"two breaks", "a.com:b.com,,c.com\n", nil},
	{"a break at the line's begin", ",a.com:b.com\n", nil},
	{"a blank ahead", " a.com:b.com\n", nil},
	{"a blank at the end", "a.com:b.com \n", nil},
	{"a blank ahead of the mark", "a.com :b.com\n", nil},
	{"a blank behind the mark", "a.com: b.com\n", nil},
	{"a blank behind the break", "a.com:b.com, c.com\n", nil},
	{"a tab at the end", "a.com:b.com\t\n", nil},
	{"a blank alone", " \n", nil},
	{"another line's end", "a.com:b.com\r\nc.com:d.com\r\n", nil},
	{"other marks", "a.com=b.com\na.com;b.com\na.com:b.com;c.com\n", nil},
	{"members falling", "a.com:c.com,b.com\n", nil},
	{"members twice", "a.com:b.com,b.com\n", nil},
	{"members twice apart", "a.com:b.com,c.com,b.com\n", nil},
	{"its own member", "a.com:a.com\n", nil},
	{"its own last member", "c.com:a.com,b.com,c.com\n", nil},
	{"a primary that is a suffix", "com:b.com\n", nil},
	{"a primary with a label more", "x.a.com:b.com\n", nil},
	{"a member that is a suffix", "a.com:co.uk\n", nil},
	{"a member with a label more", "a.com:b.com,x.c.com\n", nil},
	{"a domain that is no host", "A.com:b.com\na.com:b_.com\na.com:-b.com\n", nil},
	{"sites", "https://a.com:https://b.com\n", nil},
	{"bytes of all kinds", "\x00:\xff\né.com:b.com\na.com\x00:b.com\nok.com:b.com", []string{"ok.com:b.com"}},
	{"by a star and an exclamation mark", "shop.co.uk:city.uk\n", []string{"shop.co.uk:city.uk"}},

	{"wrong ones between", "x\na.com:b.com\n:\nc.com:d.com,\nc.com:d.com\n#e.com:f.com\n", []string{"a.com:b.com", "c.com:d.com"}},
	{"the same line twice", "a.com:b.com\na.com:b.com\n", []string{"a.com:b.com"}},
	{"a primary of one ahead", "a.com:b.com\na.com:c.com\n", []string{"a.com:b.com"}},
	{"a member of one ahead", "a.com:b.com\nc.com:b.com\n", []string{"a.com:b.com"}},
	{"a member of one ahead, at its last place", "c.com:d.com\na.com:b.com,d.com\n", []string{"c.com:d.com"}},
	{"a primary that was a member", "a.com:c.com\nc.com:d.com\n", []string{"a.com:c.com"}},
	{"a member that was a primary", "c.com:d.com\na.com:c.com\n", []string{"c.com:d.com"}},
	{"the first one stays, not the least", "z.com:b.com\na.com:b.com\n", []string{"z.com:b.com"}},
	{"of the first of three", "a.com:b.com\nc.com:d.com\ne.com:b.com\n", []string{"a.com:b.com", "c.com:d.com"}},

	{"a primary of one left out", "a.com:b.com\nc.com:b.com\nc.com:d.com\n", []string{"a.com:b.com", "c.com:d.com"}},
	{"a first member of one left out", "b.com:x.com\na.com:c.com,x.com\nd.com:c.com\n", []string{"b.com:x.com", "d.com:c.com"}},
	{"a last member of one left out", "a.com:b.com\nb.com:z.com\ny.com:z.com\n", []string{"a.com:b.com", "y.com:z.com"}},
	{"behind a taken one of one left out", "a.com:m.com\nc.com:l.com,m.com,n.com\nd.com:l.com,n.com\n", []string{"a.com:m.com", "d.com:l.com,n.com"}},
	{"of one left out by one left out", "a.com:b.com\nb.com:c.com\nc.com:d.com\nd.com:e.com\n", []string{"a.com:b.com", "c.com:d.com"}},
	{"what stays is not given back", "a.com:b.com\nc.com:b.com\nd.com:b.com\ne.com:a.com\n", []string{"a.com:b.com"}},
	{"of one with a primary its own member", "a.com:a.com,b.com\na.com:c.com\nb.com:d.com\n", []string{"a.com:c.com", "b.com:d.com"}},
	{"of one that is wrong", "a.com:b.com,\nc.com:a.com,b.com\n", []string{"c.com:a.com,b.com"}},
}

func TestSetsReadFromText(t *testing.T) {
	for _, c := range setReads {
		out := impl.SetsRead(siteRules, c.text)
		sameRead(t, c.what, out, impl.SetsOut{Sets: setsOf(c.want...)})
		same(t, c.what+": right", impl.SetsRight(siteRules, out.Sets), true)
		same(t, c.what+": text", impl.SetsText(siteRules, out.Sets), setsText(c.want))
	}
}

func TestSetsReadByOtherRules(t *testing.T) {
	const text = "a.com:b.com\nshop.co.uk:city.uk\nco.uk:x.zz\n"
	sameSets(t, "siteRules", impl.SetsRead(siteRules, text).Sets, setsOf("a.com:b.com", "shop.co.uk:city.uk"))
	sameSets(t, "none", impl.SetsRead(nil, text).Sets, setsOf("a.com:b.com", "co.uk:x.zz"))
	sameSets(t, "another", impl.SetsRead([]string{"a.com"}, text).Sets, setsOf("co.uk:x.zz"))
}

func TestSetsReadByWrongRules(t *testing.T) {
	for _, rules := range wrongRuleLists {
		for _, text := range []string{"", "\n", "x", "a.com:b.com\n", strings.Repeat("\n", impl.MaxBytes)} {
			want := impl.SetsOut{Code: impl.ErrForm}
			if len(rules) > impl.MaxList {
				want.Code = impl.ErrSize
			}
			sameRead(t, shown(rules)+shown(text), impl.SetsRead(rules, text), want)
		}
	}
}

// The size is looked for ahead of all else, of the text and of the rules.
func TestSetsReadBySize(t *testing.T) {
	for size := impl.MaxBytes - 2; size < impl.MaxBytes+3; size++ {
		text := "c.com:d.com\n" + strings.Repeat("\n", size-len("c.com:d.com\na.com:b.com")) + "a.com:b.com"
		want := impl.SetsOut{Sets: setsOf("a.com:b.com", "c.com:d.com")}
		wrong := impl.SetsOut{Code: impl.ErrForm}
		if size > impl.MaxBytes {
			want = impl.SetsOut{Code: impl.ErrSize}
			wrong = want
		}
		sameRead(t, fmt.Sprint(size, " bytes"), impl.SetsRead(siteRules, text), want)
		sameRead(t, fmt.Sprint(size, " bytes, rules wrong"), impl.SetsRead([]string{""}, text), wrong)
	}
	for _, count := range []int{impl.MaxRules, impl.MaxRules + 1, impl.MaxList, impl.MaxList + 1, impl.MaxList + 2} {
		want := impl.SetsOut{Sets: setsOf("a.com:b.com")}
		if count > impl.MaxRules {
			want = impl.SetsOut{Code: impl.ErrForm}
		}
		if count > impl.MaxList {
			want = impl.SetsOut{Code: impl.ErrSize}
		}
		sameRead(t, fmt.Sprint(count, " rules"), impl.SetsRead(manyRules(count), "a.com:b.com"), want)
		same(t, fmt.Sprint(count, " empty rules"), impl.SetsRead(make([]string, count), "a.com:b.com").Code, max(want.Code, impl.ErrForm))
	}
	// More lines, and in one line more parts, than a list may have.
	sameSets(t, "many lines", impl.SetsRead(siteRules, strings.Repeat("a:b\n", 1996)+"a.com:b.com").Sets, setsOf("a.com:b.com"))
	sameSets(t, "many parts", impl.SetsRead(siteRules, "c.com:"+strings.Repeat("a,", 3980)+"a\na.com:b.com").Sets, setsOf("a.com:b.com"))
}

func TestSetsReadMoreThanMaxSets(t *testing.T) {
	for count := range impl.MaxSets + 5 {
		lines := manySets(count)
		want := setsOf(lines[:min(count, impl.MaxSets)]...)
		sameSets(t, "rising", impl.SetsRead(siteRules, strings.Join(lines, "\n")).Sets, want)
		sameSets(t, "each twice side by side", impl.SetsRead(siteRules, eachTwice(lines)).Sets, want)
		sameSets(t, "wrong ones between", impl.SetsRead(siteRules, strings.Join(lines, "\nx\na.com:\ncom:b.com\n\n")).Sets, want)
		taken := strings.Join(lines, "\nq.com:p000.com\nq.com:m000.com\n")
		if count > 0 {
			sameSets(t, "taken ones between", impl.SetsRead(siteRules, taken).Sets, want)
		}
		// The first ones of the text stay, not the least ones.
		slices.Reverse(lines)
		last := lines[:min(count, impl.MaxSets)]
		slices.Reverse(last)
		want = setsOf(last...)
		slices.Reverse(last)
		sameSets(t, "falling", impl.SetsRead(siteRules, setsText(lines)).Sets, want)
	}
}

// eachTwice: the second one has the first one's Member.
func eachTwice(lines []string) string {
	text := ""
	for i, line := range lines {
		_, member, _ := strings.Cut(line, ":")
		text += line + "\n" + fmt.Sprintf("z%d.com:%s\n", i, member)
	}
	return text
}

// readByForm: one sentence of the document after the other.
func readByForm(rules []string, text string) []impl.SiteSet {
	var stay []impl.SiteSet
	for _, line := range strings.Split(text, "\n") {
		s := setOf(line)
		if strings.Count(line, ":") != 1 || !setsByForm(rules, []impl.SiteSet{s}) {
			continue
		}
		meets := func(other impl.SiteSet) bool {
			for _, domain := range append([]string{s.Primary}, s.Members...) {
				if domain == other.Primary || slices.Contains(other.Members, domain) {
					return true
				}
			}
			return false
		}
		if len(stay) < 6 && !slices.ContainsFunc(stay, meets) {
			stay = append(stay, s)
		}
	}
	slices.SortFunc(stay, func(a impl.SiteSet, b impl.SiteSet) int { return strings.Compare(a.Primary, b.Primary) })
	return stay
}

func TestSetsReadDrawn(t *testing.T) {
	r := rand.New(rand.NewSource(9))
	pool := []string{"a.com", "b.com", "c.com", "d.com", "e.com", "f.com", "g.com", "h.com", "i.com", "j.com", "city.uk", "a.co.uk", "a.zz", "b.zz", "c.zz", "d.zz"}
	counts := map[int]int{}
	for range 4000 {
		text := ""
		for range r.Intn(14) {
			r.Shuffle(len(pool), func(i int, k int) { pool[i], pool[k] = pool[k], pool[i] })
			members := slices.Clone(pool[1 : 2+r.Intn(3)/2+r.Intn(8)/7])
			if r.Intn(8) > 0 {
				slices.Sort(members)
			}
			text += pool[0] + ":" + strings.Join(members, ",") + []string{"\n", "\n", "\n", "\n", "\n\n", ",\n", ""}[r.Intn(7)]
		}
		out := impl.SetsRead(siteRules, text)
		want := readByForm(siteRules, text)
		counts[len(want)]++
		sameRead(t, shown(text), out, impl.SetsOut{Sets: want})
		same(t, shown(text), impl.SetsRight(siteRules, out.Sets), true)
		sameRead(t, "read again", impl.SetsRead(siteRules, impl.SetsText(siteRules, out.Sets)), out)
	}
	for count := range impl.MaxSets + 1 {
		if counts[count] == 0 {
			t.Errorf("no text of %d sets was drawn", count)
		}
	}
}

// A text with one byte turned, put in or taken out.
func TestSetsReadWithOneByteTurned(t *testing.T) {
	const text = "c.com:d.com,e.uk.uk\na.com:b.com\n"
	check := func(other string) {
		t.Helper()
		sameSets(t, shown(other), impl.SetsRead(siteRules, other).Sets, readByForm(siteRules, other))
	}
	for at := range len(text) {
		check(text[:at] + text[at+1:])
		for b := range 256 {
			check(text[:at] + string([]byte{byte(b)}) + text[at+1:])
			check(text[:at] + string([]byte{byte(b)}) + text[at:])
		}
	}
}

func TestSetsReadAreNewMemory(t *testing.T) {
	const text = "c.com:d.com,e.com\na.com:b.com,f.com\nx.com:b.com\n"
	want := setsOf("a.com:b.com,f.com", "c.com:d.com,e.com")
	show := func(s string) string { return fmt.Sprint(impl.SetsRead(siteRules, s)) }
	staysAsItIs(t, "SetsRead", text, show)
	b := []byte(text + "com")
	rules := []string{unsafe.String(&b[len(text)], 3), "zzz"}
	out := impl.SetsRead(rules[:1], unsafe.String(&b[0], len(text)))
	same(t, "the rule behind those handed in", rules[1], "zzz")
	clear(b)
	sameSets(t, "behind the call", out.Sets, want)
	for _, s := range out.Sets {
		_ = append(s.Members, "other")
	}
	out.Sets[0].Members[0] = "other"
	sameSets(t, "the other list", out.Sets[1:], want[1:])
	sameSets(t, "the next call", impl.SetsRead(siteRules, text).Sets, want)
}
