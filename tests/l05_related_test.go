package tests

import (
	"fmt"
	"math/rand"
	"slices"
	"strings"
	"testing"
	"unsafe"

	"loop.example/g00551/impl"
)

// Promise 9: who is related is so either way.

var someRelated = []string{"a.com:b.com", "c.com:city.uk,d.com,shop.co.uk,z.com", "m.com:l.com,n.com"}

// noSites: texts that are no site, by siteRules.
var noSites = []string{
	"", "a.com", "http://a.com", "http://b.com", "://a.com", "//a.com", "https:", "https:/", "https://", "https:a.com", "https:/a.com", "https:///a.com",
	"https://https://a.com", "HTTPS://a.com", "Https://a.com", "httpss://a.com", "ttps://a.com", "xhttps://a.com", " https://a.com", "https://a.com ", "https:// a.com",
	"https://a.com/", "https://a.com:443", "https://a.com:8443", "https://a.com\n", "https://A.com", "https://.a.com", "https://a.com.", "https://a..com",
	"https://com", "https://uk", "https://co.uk", "https://io.com", "https://x.a.com", "https://x.b.com", "https://www.city.uk", "https://www.shop.co.uk",
	"https://a.com:b.com", "https://a.com,b.com", "https://*.uk", "https://!city.uk", "https://é.com", "https://a.com\x00", "null#1", "a.com:b.com",
	tooLong, "https://" + tooLong, "https://a.com" + strings.Repeat("/", impl.MaxBytes),
}

func sameSet(t *testing.T, what string, got impl.SiteSet, want impl.SiteSet) {
	t.Helper()
	sameSets(t, what, []impl.SiteSet{got}, []impl.SiteSet{want})
}

func TestSetOfSites(t *testing.T) {
	for _, lines := range append(rightSets, someRelated) {
		l := setsOf(lines...)
		for _, s := range l {
			for _, domain := range append([]string{s.Primary}, s.Members...) {
				sameSet(t, domain, impl.SetOf(siteRules, l, "https://"+domain), s)
				sameSet(t, domain+" by http", impl.SetOf(siteRules, l, "http://"+domain), impl.SiteSet{})
				sameSet(t, domain+" alone", impl.SetOf(siteRules, l, domain), impl.SiteSet{})
				sameSet(t, domain+" within", impl.SetOf(siteRules, l, "https://x."+domain), impl.SiteSet{})
			}
		}
		for _, site := range []string{"https://none.com", "https://a.none", "https://none.co.uk"} {
			sameSet(t, "in none", impl.SetOf(siteRules, l, site), impl.SiteSet{})
		}
	}
}

func TestSetOfWhatIsNoSite(t *testing.T) {
	l := setsOf(someRelated...)
	for _, site := range noSites {
		sameSet(t, shown(site), impl.SetOf(siteRules, l, site), impl.SiteSet{})
		sameSet(t, shown(site)+" of none", impl.SetOf(siteRules, nil, site), impl.SiteSet{})
	}
}

func TestSetOfWrongSets(t *testing.T) {
	for _, c := range wrongSetLists {
		l := setsOf(c.lines...)
		for _, s := range l[:min(len(l), 9)] {
			for _, domain := range append([]string{s.Primary}, s.Members...) {
				sameSet(t, c.what, impl.SetOf(siteRules, l, "https://"+domain), impl.SiteSet{})
			}
		}
		sameSet(t, c.what+": the empty text", impl.SetOf(siteRules, l, ""), impl.SiteSet{})
	}
}

func TestSetOfByWrongRules(t *testing.T) {
	for _, rules := range wrongRuleLists {
		sameSet(t, shown(rules), impl.SetOf(rules, setsOf(someRelated...), "https://a.com"), impl.SiteSet{})
		sameSet(t, shown(rules), impl.SetOf(rules, nil, "https://a.com"), impl.SiteSet{})
	}
	sameSet(t, "not right by others", impl.SetOf([]string{"a.com"}, setsOf("a.com:b.com"), "https://b.com"), impl.SiteSet{})
	sameSet(t, "by none", impl.SetOf(nil, setsOf("a.com:b.com"), "https://b.com"), setOf("a.com:b.com"))
}

func TestRelatedSites(t *testing.T) {
	l := setsOf(someRelated...)
	cases := []struct {
		what string
		a    string
		b    string
		want bool
	}{
		{"primary and member", "https://a.com", "https://b.com", true},
		{"primary and last member", "https://c.com", "https://z.com", true},
		{"two members", "https://city.uk", "https://shop.co.uk", true},
		{"two members around the primary", "https://l.com", "https://n.com", true},
		{"the same primary", "https://a.com", "https://a.com", true},
		{"the same member", "https://d.com", "https://d.com", true},
		{"the same in no set", "https://q.com", "https://q.com", true},
		{"the same in no set, by a star", "https://q.co.uk", "https://q.co.uk", true},
		{"the same in no set, by no rule", "https://q.zz", "https://q.zz", true},
		{"two primaries", "https://a.com", "https://c.com", false},
		{"members of two", "https://b.com", "https://d.com", false},
		{"a primary and another's member", "https://a.com", "https://d.com", false},
		{"the first and the last set", "https://a.com", "https://m.com", false},
		{"one in no set", "https://a.com", "https://q.com", false},
		{"a member and one in no set", "https://b.com", "https://q.com", false},
		{"two in no set", "https://p.com", "https://q.com", false},
		{"one by http", "https://a.com", "http://b.com", false},
		{"both by http", "http://a.com", "http://b.com", false},
		{"the same by http", "http://a.com", "http://a.com", false},
		{"one without a scheme", "https://a.com", "b.com", false},
		{"the same domain, one without a scheme", "https://a.com", "a.com", false},
		{"both without a scheme", "a.com", "b.com", false},
		{"one with a label more", "https://x.a.com", "https://b.com", false},
		{"one of the same site with a label more", "https://x.a.com", "https://a.com", false},
		{"the same with a label more", "https://x.a.com", "https://x.a.com", false},
		{"the same suffix", "https://co.uk", "https://co.uk", false},
		{"the same with a port", "https://a.com:8443", "https://a.com:8443", false},
		{"the same with a path", "https://a.com/", "https://a.com/", false},
		{"the same empty text", "", "", false},
		{"the same scheme alone", "https://", "https://", false},
	}
	for _, c := range cases {
		same(t, c.what, impl.Related(siteRules, l, c.a, c.b), c.want)
		same(t, c.what+", the other way", impl.Related(siteRules, l, c.b, c.a), c.want)
	}
}

func TestRelatedWithoutSets(t *testing.T) {
	for _, l := range [][]impl.SiteSet{nil, {}} {
		same(t, "the same", impl.Related(siteRules, l, "https://a.com", "https://a.com"), true)
		same(t, "the same by no rules", impl.Related(nil, l, "https://a.com", "https://a.com"), true)
		same(t, "two", impl.Related(siteRules, l, "https://a.com", "https://b.com"), false)
		same(t, "a suffix", impl.Related(siteRules, l, "https://co.uk", "https://co.uk"), false)
	}
}

func TestRelatedToWhatIsNoSite(t *testing.T) {
	l := setsOf(someRelated...)
	for _, text := range noSites {
		same(t, shown(text)+" twice", impl.Related(siteRules, l, text, text), false)
		same(t, shown(text)+" twice, no sets", impl.Related(siteRules, nil, text, text), false)
		for _, site := range []string{"https://a.com", "https://b.com", "https://q.com", "", "https://"} {
			same(t, shown(text)+" ahead of "+site, impl.Related(siteRules, l, text, site), false)
			same(t, shown(text)+" behind "+site, impl.Related(siteRules, l, site, text), false)
		}
	}
}

func TestRelatedByWrongSets(t *testing.T) {
	for _, c := range wrongSetLists {
		l := setsOf(c.lines...)
		for _, other := range []string{"https://a.com", "https://b.com", "https://q.com", "https://p000.com", "https://m000.com"} {
			for _, site := range []string{"https://a.com", "https://p000.com", "https://q.com"} {
				same(t, c.what, impl.Related(siteRules, l, site, other), false)
			}
		}
	}
}

func TestRelatedByWrongRules(t *testing.T) {
	for _, rules := range wrongRuleLists {
		for _, l := range [][]impl.SiteSet{nil, setsOf(someRelated...)} {
			same(t, shown(rules), impl.Related(rules, l, "https://a.com", "https://b.com"), false)
			same(t, shown(rules)+": the same", impl.Related(rules, l, "https://a.com", "https://a.com"), false)
			same(t, shown(rules)+": nothing", impl.Related(rules, l, "https://", "https://"), false)
		}
	}
	same(t, "not right by others", impl.Related([]string{"b.com"}, setsOf("a.com:b.com"), "https://a.com", "https://b.com"), false)
	same(t, "not right by others, the same", impl.Related([]string{"b.com"}, setsOf("a.com:b.com"), "https://a.com", "https://a.com"), false)
}

// Of all sites two by two: just who is of one set, or the same, either way, and
// as SetOf tells.
func TestRelatedTwoByTwo(t *testing.T) {
	r := rand.New(rand.NewSource(14))
	names := []string{"a.com", "b.com", "c.com", "d.com", "e.com", "f.com", "city.uk", "a.co.uk", "a.io.com", "b.zz", "q.com", "x.a.com", "com", ""}
	for range 300 {
		l := someSets(r)
		right := setsByForm(siteRules, l)
		for i, a := range names {
			for _, b := range names[i:] {
				want := right && a == b && domainByForm(siteRules, a)
				for _, s := range l {
					all := append([]string{s.Primary}, s.Members...)
					want = want || right && slices.Contains(all, a) && slices.Contains(all, b)
				}
				what := fmt.Sprintf("%q: %s and %s", l, a, b)
				same(t, what, impl.Related(siteRules, l, "https://"+a, "https://"+b), want)
				same(t, what+", the other way", impl.Related(siteRules, l, "https://"+b, "https://"+a), want)
				if a != b && want {
					sameSet(t, what, impl.SetOf(siteRules, l, "https://"+a), impl.SetOf(siteRules, l, "https://"+b))
				}
			}
		}
	}
}

// setsInBytes: sets whose texts lie in the bytes that are handed back, in lists
// with room behind their ends.
func setsInBytes(lines []string) ([]impl.SiteSet, []byte) {
	b := []byte(strings.Join(lines, "\n"))
	at := 0
	next := func(text string) string {
		piece := unsafe.String(&b[at], len(text))
		at += len(text) + 1
		return piece
	}
	l := make([]impl.SiteSet, 0, len(lines)+2)
	for _, line := range lines {
		s := setOf(line)
		held := impl.SiteSet{Primary: next(s.Primary), Members: make([]string, 0, 9)}
		for _, member := range s.Members {
			held.Members = append(held.Members, next(member))
		}
		l = append(l, held)
	}
	return l, b
}

func TestSetsLeaveWhatIsHandedIn(t *testing.T) {
	l, b := setsInBytes(someRelated)
	all := strings.Join(someRelated, "\n")
	rules := append(slices.Clone(siteRules), "zzz")
	_ = impl.SetsRight(rules[:4], l)
	_ = impl.SetsText(rules[:4], l)
	_ = impl.SetOf(rules[:4], l, "https://shop.co.uk")
	_ = impl.Related(rules[:4], l, "https://city.uk", "https://shop.co.uk")
	same(t, "the texts", string(b), all)
	sameSets(t, "the sets", l, setsOf(someRelated...))
	sameList(t, "the rules, and what lies behind them", rules, append(slices.Clone(siteRules), "zzz"))
	for _, s := range l {
		for _, behind := range s.Members[len(s.Members):cap(s.Members)] {
			same(t, "what lies behind the members", behind, "")
		}
	}
	sameSets(t, "what lies behind the sets", l[len(l):cap(l)], make([]impl.SiteSet, 2))
}

func TestSetsTextIsNewMemory(t *testing.T) {
	l, b := setsInBytes(someRelated)
	text := impl.SetsText(siteRules, l)
	clear(b)
	same(t, "the text behind the call", text, setsText(someRelated))
}

func TestSetOfIsNewMemory(t *testing.T) {
	for _, line := range someRelated {
		l, b := setsInBytes(someRelated)
		want := setOf(line)
		site := []byte("https://" + want.Members[0])
		got := impl.SetOf(siteRules, l, unsafe.String(&site[0], len(site)))
		same(t, "the site handed in", string(site), "https://"+want.Members[0])
		clear(b)
		clear(site)
		for _, s := range l {
			s.Members[0] = "other"
			_ = append(s.Members, "other")
		}
		sameSet(t, line, got, want)
		got.Members[0] = "another"
		_ = append(got.Members, "another")
		for _, s := range l {
			same(t, "the list handed in", s.Members[0], "other")
		}
	}
}
