package tests

import (
	"fmt"
	"math/rand"
	"slices"
	"strings"
	"testing"

	"loop.example/g00551/impl"
)

// Promise 9: right sets come back from their text.

// setOf: a set by its line; without `:` it has no Members.
func setOf(line string) impl.SiteSet {
	primary, members, ok := strings.Cut(line, ":")
	if !ok {
		return impl.SiteSet{Primary: primary}
	}
	return impl.SiteSet{Primary: primary, Members: strings.Split(members, ",")}
}

func setsOf(lines ...string) []impl.SiteSet {
	var l []impl.SiteSet
	for _, line := range lines {
		l = append(l, setOf(line))
	}
	return l
}

// sameSets: an empty list and none are the same.
func sameSets(t *testing.T, what string, got []impl.SiteSet, want []impl.SiteSet) {
	t.Helper()
	if fmt.Sprintf("%q", got) != fmt.Sprintf("%q", want) {
		t.Errorf("%s: got %q, want %q", what, got, want)
	}
}

func sameRead(t *testing.T, what string, got impl.SetsOut, want impl.SetsOut) {
	t.Helper()
	same(t, what+": code", got.Code, want.Code)
	sameSets(t, what, got.Sets, want.Sets)
}

// manySets: so many lines of right sets, rising.
func manySets(count int) []string {
	var l []string
	for i := range count {
		l = append(l, fmt.Sprintf("p%03d.com:m%03d.com", i, i))
	}
	return l
}

const longestA = "a.abcdefghijkl.abcdefghijkl.abcdefghijkl.abcdefghijkl.zbcdefghijky"

// rightSets: lines of sets that are right by siteRules.
var rightSets = [][]string{
	nil,
	{},
	{"a.com:b.com"},
	{"a.com:b.com,c.com"},
	{"a.com:b.com,c.com,d.com"},
	{"a.com:b.com,c.com,d.com,e.com"},
	{"z.com:a.com"},
	{"m.com:a.com,z.com"},
	{"a.com:b.com", "c.com:city.uk"},
	{"a.com:z.com", "b.com:y.com"},
	{"b.com:a.com", "c.com:0.com"},
	{"a.com:b.com,c.com,d.com,e.com", "f.com:g.com,h.com,i.com,j.com"},
	{"a.com:a.io.com", "a.zz:city.uk,shop.co.uk"},
	{"a.com:a0.com", "a.com1:b.com1", "aa.com:ab.com"},
	{"a.com:a.con"},
	{"a-b.com:a.com", "a0.com:a00.com"},
	{"a.co:a.com", "b.com:b.co"},
	manySets(1), manySets(2), manySets(impl.MaxSets - 1), manySets(impl.MaxSets),
}

// wrongSetLists: each has one thing that may not be.
var wrongSetLists = []struct {
	what  string
	lines []string
}{
	{"one too many", manySets(impl.MaxSets + 1)},
	{"as many as a list may have", manySets(impl.MaxList)},
	{"more than a list may have", manySets(impl.MaxList + 1)},
	{"primaries equal", []string{"a.com:b.com", "a.com:c.com"}},
	{"primaries equal, behind another", []string{"a.com:b.com", "c.com:d.com", "c.com:e.com"}},
	{"primaries falling", []string{"c.com:d.com", "a.com:b.com"}},
	{"primaries falling at the end", []string{"a.com:b.com", "e.com:f.com", "c.com:d.com"}},
	{"the longer primary ahead", []string{"a.com:b.com", "a.co:b.co"}},
	{"the same set twice", []string{"a.com:b.com", "a.com:b.com"}},
	{"no member", []string{"a.com"}},
	{"no member in the second", []string{"a.com:b.com", "c.com"}},
	{"an empty member alone", []string{"a.com:"}},
	{"five members", []string{"a.com:b.com,c.com,d.com,e.com,f.com"}},
	{"five members in the second", []string{"a.com:b.com", "c.com:d.com,e.com,f.com,g.com,h.com"}},
	{"members equal", []string{"a.com:b.com,b.com"}},
	{"members equal at the end", []string{"a.com:b.com,c.com,c.com"}},
	{"members equal apart", []string{"a.com:b.com,c.com,b.com"}},
	{"members falling", []string{"a.com:c.com,b.com"}},
	{"members falling at the end", []string{"a.com:b.com,d.com,c.com"}},
	{"the longer member ahead", []string{"a.com:b.com,b.co"}},
	{"a primary that is its own member", []string{"a.com:a.com"}},
	{"a primary that is its own first member", []string{"a.com:a.com,b.com"}},
	{"a primary that is its own middle member", []string{"b.com:a.com,b.com,c.com"}},
	{"a primary that is its own last member", []string{"d.com:a.com,b.com,c.com,d.com"}},
	{"a member of both", []string{"a.com:b.com", "c.com:b.com"}},
	{"a member of both, at other places", []string{"a.com:b.com,x.com", "c.com:x.com,y.com"}},
	{"a member of the first and the third", []string{"a.com:b.com", "c.com:d.com", "e.com:b.com"}},
	{"a member, then a primary", []string{"a.com:c.com", "c.com:d.com"}},
	{"a primary, then a member", []string{"a.com:b.com", "c.com:a.com"}},
	{"a primary, then a last member", []string{"b.com:c.com", "d.com:a.com,b.com"}},
	{"each the other's", []string{"a.com:b.com", "b.com:a.com"}},
	{"the empty primary", []string{":b.com"}},
	{"a primary that is a suffix", []string{"com:b.com"}},
	{"a primary with a label more", []string{"x.a.com:b.com"}},
	{"a primary that is no host", []string{"A.com:b.com"}},
	{"a primary that is a suffix by a star", []string{"co.uk:b.com"}},
	{"a second primary that is a suffix", []string{"a.com:b.com", "co.uk:c.com"}},
	{"a member that is a suffix", []string{"a.com:com"}},
	{"a member with a label more", []string{"a.com:x.b.com"}},
	{"a last member that is a suffix", []string{"a.com:b.com,co.uk"}},
	{"a first member that is no host", []string{"a.com:B.com,b.com"}},
	{"an empty member ahead", []string{"a.com:,b.com"}},
	{"a member that is a site", []string{"a.com:https://b.com"}},
	{"a member that is a rule", []string{"a.com:!city.uk"}},
	{"a member that is too long", []string{"a.com:" + tooLong}},
	{"a primary that is too long", []string{tooLong + ":b.com"}},
	{"a member of another set's site", []string{"a.com:b.com", "c.com:x.b.com"}},
}

// setsText: the text of right sets is their lines.
func setsText(lines []string) string {
	if len(lines) == 0 {
		return ""
	}
	return strings.Join(lines, "\n") + "\n"
}

func TestSetListsThatAreRight(t *testing.T) {
	for _, lines := range rightSets {
		l := setsOf(lines...)
		same(t, shown(lines), impl.SetsRight(siteRules, l), true)
		same(t, shown(lines)+": text", impl.SetsText(siteRules, l), setsText(lines))
	}
	same(t, "an empty list", impl.SetsRight(siteRules, []impl.SiteSet{}), true)
	same(t, "by no rules", impl.SetsRight(nil, setsOf("a.com:b.com", "city.uk:co.uk")), true)
	same(t, "none by no rules", impl.SetsRight(nil, nil), true)
}

func TestSetListsThatAreWrong(t *testing.T) {
	for _, c := range wrongSetLists {
		l := setsOf(c.lines...)
		same(t, c.what, impl.SetsRight(siteRules, l), false)
		same(t, c.what+": text", impl.SetsText(siteRules, l), "")
	}
	same(t, "the zero set", impl.SetsRight(siteRules, make([]impl.SiteSet, 1)), false)
	empty := []impl.SiteSet{{Primary: "a.com", Members: []string{}}}
	same(t, "an empty list of members", impl.SetsRight(siteRules, empty), false)
	many := []impl.SiteSet{{Primary: "a.com", Members: manyRules(impl.MaxList + 1)}}
	same(t, "more members than a list may have", impl.SetsRight(siteRules, many), false)
}

func TestSetListsByWrongRules(t *testing.T) {
	for _, rules := range wrongRuleLists {
		for _, lines := range rightSets {
			l := setsOf(lines...)
			same(t, shown(rules)+shown(lines), impl.SetsRight(rules, l), false)
			same(t, shown(rules)+shown(lines)+": text", impl.SetsText(rules, l), "")
		}
	}
}

func TestSetListsByOtherRules(t *testing.T) {
	l := setsOf("a.com:shop.co.uk")
	same(t, "by the rules", impl.SetsText(siteRules, l), "a.com:shop.co.uk\n")
	same(t, "by none", impl.SetsText(nil, l), "")
	same(t, "by a longer one", impl.SetsText([]string{"*.uk", "a.com"}, l), "")
}

func TestSetListsByDomain(t *testing.T) {
	for _, c := range domains {
		if c.domain == "other.zz" || !impl.DomainRight(c.rules, "other.zz") {
			t.Fatalf("%s: the other domain is not right", c.what)
		}
		same(t, c.what+": primary", impl.SetsRight(c.rules, setsOf(c.domain+":other.zz")), c.want)
		same(t, c.what+": member", impl.SetsRight(c.rules, setsOf("other.zz:"+c.domain)), c.want)
	}
	for _, host := range wrongHosts {
		same(t, shown(host)+": primary", impl.SetsRight(nil, []impl.SiteSet{{Primary: host, Members: []string{"b.com"}}}), false)
		same(t, shown(host)+": member", impl.SetsRight(nil, []impl.SiteSet{{Primary: "a.com", Members: []string{host}}}), false)
	}
}

func TestSetListsByCount(t *testing.T) {
	same(t, "MaxSets", impl.MaxSets, 6)
	for count := range impl.MaxSets + 4 {
		l := setsOf(manySets(count)...)
		same(t, fmt.Sprint(count, " sets"), impl.SetsRight(siteRules, l), count <= impl.MaxSets)
	}
	all := []string{"b.com", "c.com", "d.com", "e.com", "f.com", "g.com", "h.com"}
	for count := range all {
		l := []impl.SiteSet{{Primary: "a.com", Members: all[:count]}}
		same(t, fmt.Sprint(count, " members"), impl.SetsRight(siteRules, l), count >= 1 && count <= 4)
	}
}

func TestSetListsComeBack(t *testing.T) {
	for _, lines := range rightSets {
		l := setsOf(lines...)
		sameRead(t, shown(lines), impl.SetsRead(siteRules, impl.SetsText(siteRules, l)), impl.SetsOut{Sets: l})
	}
	// The greatest text that there is.
	rules := []string{"abcdefghijkl.abcdefghijkl.abcdefghijkl.abcdefghijkl.zbcdefghijky"}
	same(t, "a long domain", impl.DomainRight(rules, longestA), true)
	var lines []string
	for i := range impl.MaxSets {
		line := fmt.Sprintf("abcdefghij%c0", 'a'+i) + longestA[1:]
		for k := range 4 {
			line += []string{":", ","}[min(k, 1)] + fmt.Sprintf("abcdefghij%c%d", 'a'+i, k+1) + longestA[1:]
		}
		lines = append(lines, line)
	}
	l := setsOf(lines...)
	same(t, "the greatest text", impl.SetsText(rules, l), setsText(lines))
	sameRead(t, "the greatest text", impl.SetsRead(rules, setsText(lines)), impl.SetsOut{Sets: l})
}

// setsByForm: are sets right by right rules? One sentence of the document after
// the other, without a look at what else the program has.
func setsByForm(rules []string, l []impl.SiteSet) bool {
	var all []string
	var primaries []string
	for _, s := range l {
		if len(s.Members) < 1 || len(s.Members) > 4 || !slices.IsSorted(s.Members) {
			return false
		}
		all = append(append(all, s.Primary), s.Members...)
		primaries = append(primaries, s.Primary)
	}
	for i, domain := range all {
		if !domainByForm(rules, domain) || slices.Contains(all[:i], domain) {
			return false
		}
	}
	return len(l) <= 6 && slices.IsSorted(primaries)
}

// someSets draws sets out of few domains, so that they often meet.
func someSets(r *rand.Rand) []impl.SiteSet {
	pool := []string{"a.com", "b.com", "c.com", "d.com", "e.com", "f.com", "city.uk", "a.co.uk", "a.io.com", "b.zz", "c.zz", "d.zz", "e.zz", "f.zz", "g.zz", "h.zz"}
	r.Shuffle(len(pool), func(i int, k int) { pool[i], pool[k] = pool[k], pool[i] })
	var l []impl.SiteSet
	for range r.Intn(5) {
		count := r.Intn(4) + 1
		if r.Intn(30) == 0 {
			count = []int{0, 5}[r.Intn(2)]
		}
		if count >= len(pool) {
			break
		}
		s := impl.SiteSet{Primary: pool[0], Members: slices.Clone(pool[1 : 1+count])}
		if r.Intn(10) > 0 {
			slices.Sort(s.Members)
		}
		pool = pool[1+count:]
		if r.Intn(10) == 0 {
			pool = append(pool, s.Primary)
		}
		if r.Intn(10) == 0 {
			pool = append(pool, "x.a.com")
		}
		l = append(l, s)
	}
	if r.Intn(10) > 0 {
		slices.SortFunc(l, func(a impl.SiteSet, b impl.SiteSet) int { return strings.Compare(a.Primary, b.Primary) })
	}
	return l
}

func TestSetListsDrawn(t *testing.T) {
	r := rand.New(rand.NewSource(5))
	right := 0
	for range 4000 {
		l := someSets(r)
		want := setsByForm(siteRules, l)
		if got := impl.SetsRight(siteRules, l); got != want {
			t.Fatalf("%q: got %v, want %v", l, got, want)
		}
		text := impl.SetsText(siteRules, l)
		if !want {
			same(t, shown(l), text, "")
			continue
		}
		right++
		sameRead(t, text, impl.SetsRead(siteRules, text), impl.SetsOut{Sets: l})
	}
	if right < 500 || right > 3500 {
		t.Errorf("%d of 4000 are right: this tells little", right)
	}
}
