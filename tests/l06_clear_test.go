package tests

import (
	"fmt"
	"math/rand"
	"slices"
	"testing"

	"loop.example/g00551/impl"
)

// Promise 12: what is cleared of a domain goes no more with what is asked for
// there in that part; cookies of other hosts, and of other parts, stay.

// clearJar: hosts and parts beside each other.
var clearJar = []impl.Cookie{
	{Name: "own", Host: "a.com", Alone: true, Path: "/", Made: 1},
	{Name: "part", Host: "a.com", Path: "/p", Secure: true, Part: "https://t.com", Made: 2},
	{Name: "other", Host: "a.com", Path: "/", Secure: true, Part: "https://u.com", Made: 3},
	{Name: "within", Host: "x.a.com", Path: "/", Secure: true, Mode: impl.MdNone, Made: 5},
	{Name: "old", Host: "y.x.a.com", Path: "/", Secure: true, Part: "https://t.com", Until: 1, Made: 8},
	{Name: "letters", Host: "xa.com", Path: "/", Made: 9},
	{Name: "letters", Host: "xa.com", Path: "/", Secure: true, Part: "https://t.com", Made: 10},
	{Name: "suffix", Host: "com", Alone: true, Path: "/", Made: 11},
	{Name: "suffix", Host: "com", Alone: true, Path: "/", Secure: true, Part: "https://t.com", Made: 12},
	{Name: "b", Host: "b.com", Path: "/", Secure: true, Part: "https://t.com", Made: 13},
}

// leftOf: what is in clearJar but at these places.
func leftOf(gone ...int) []impl.Cookie {
	var l []impl.Cookie
	for i, c := range clearJar {
		if !slices.Contains(gone, i) {
			l = append(l, c)
		}
	}
	return l
}

func TestClear(t *testing.T) {
	same(t, "the jar is right", impl.JarRight(clearJar), true)
	cases := []struct {
		what   string
		domain string
		part   string
		wide   bool
		gone   []int
	}{
		{"a part", "a.com", "https://t.com", false, []int{1, 4}},
		{"a part, wide", "a.com", "https://t.com", true, []int{0, 1, 3, 4}},
		{"another part", "a.com", "https://u.com", false, []int{2}},
		{"another part, wide", "a.com", "https://u.com", true, []int{0, 2, 3}},
		{"a part of none", "a.com", "https://v.com", false, nil},
		{"a part of none, wide", "a.com", "https://v.com", true, []int{0, 3}},
		{"no part", "a.com", "", false, []int{0, 3}},
		{"no part, wide", "a.com", "", true, []int{0, 3}},
		{"a part of 120 bytes", "a.com", longestPart, false, nil},
		{"another domain", "b.com", "https://t.com", false, []int{9}},
		{"another domain, wide", "b.com", "https://t.com", true, []int{9}},
		{"a domain of the same letters", "xa.com", "https://t.com", true, []int{5, 6}},
		{"a domain of none", "c.com", "https://t.com", true, nil},
	}
	for _, c := range cases {
		sameJar(t, c.what, impl.JarClear(clearJar, siteRules, c.domain, c.part, c.wide), leftOf(c.gone...))
		sameJar(t, c.what+": none", impl.JarClear(nil, siteRules, c.domain, c.part, c.wide), nil)
	}
	sameJar(t, "all of it", impl.JarClear(clearJar[:1], siteRules, "a.com", "", false), nil)
}

func TestClearByOtherRules(t *testing.T) {
	sameJar(t, "by no rules", impl.JarClear(clearJar, nil, "a.com", "https://t.com", false), leftOf(1, 4))
	sameJar(t, "the domain is a rule", impl.JarClear(clearJar, []string{"a.com"}, "a.com", "https://t.com", true), clearJar)
	sameJar(t, "a longer domain", impl.JarClear(clearJar, []string{"a.com"}, "x.a.com", "https://t.com", true), leftOf(3, 4))
	sameJar(t, "most rules", impl.JarClear(clearJar, manyRules(impl.MaxRules), "a.com", "https://t.com", false), leftOf(1, 4))
}

func TestClearOfWhatIsWrong(t *testing.T) {
	for _, wide := range []bool{false, true} {
		for _, l := range wrongJars() {
			sameJar(t, shown(l), impl.JarClear(l, siteRules, "a.com", "https://t.com", wide), l)
		}
		for _, rules := range wrongRuleLists {
			if len(rules) <= impl.MaxList {
				sameJar(t, shown(rules), impl.JarClear(clearJar, rules, "a.com", "https://t.com", wide), clearJar)
			}
		}
		for _, domain := range append([]string{"com", "co.uk", "uk", "x.a.com", "y.x.a.com", "io.com", "https://a.com", "*.uk"}, wrongHosts...) {
			if len(domain) <= impl.MaxBytes {
				sameJar(t, shown(domain), impl.JarClear(clearJar, siteRules, domain, "https://t.com", wide), clearJar)
			}
		}
		for _, part := range []string{longestPart + "x", tooLong[:impl.MaxBytes]} {
			sameJar(t, fmt.Sprint(len(part), " bytes"), impl.JarClear(clearJar, siteRules, "a.com", part, wide), clearJar)
		}
		sameJar(t, "as many as a list may have", impl.JarClear(manyCookies(impl.MaxList), siteRules, "a.com", "https://t.com", wide), manyCookies(impl.MaxList))
		sameJar(t, "as many rules as a list may have", impl.JarClear(clearJar, manyRules(impl.MaxList), "a.com", "https://t.com", wide), clearJar)
	}
}

// What is too long is refused ahead of all else: nothing is handed back.
func TestClearBySize(t *testing.T) {
	long := manyCookies(impl.MaxList + 1)
	for _, wide := range []bool{false, true} {
		sameJar(t, "a list too long", impl.JarClear(long, siteRules, "a.com", "https://t.com", wide), nil)
		sameJar(t, "rules too long", impl.JarClear(clearJar, manyRules(impl.MaxList+1), "a.com", "https://t.com", wide), nil)
		sameJar(t, "a domain too long", impl.JarClear(clearJar, siteRules, tooLong, "https://t.com", wide), nil)
		sameJar(t, "a part too long", impl.JarClear(clearJar, siteRules, "a.com", tooLong, wide), nil)
		sameJar(t, "a part too long, of a wrong jar", impl.JarClear(make([]impl.Cookie, 2), siteRules, "a.com", tooLong, wide), nil)
		sameJar(t, "a domain of MaxBytes bytes", impl.JarClear(clearJar, siteRules, tooLong[1:], "https://t.com", wide), clearJar)
		// A field is not handed in as such.
		fields := []impl.Cookie{{Name: tooLong, Host: tooLong, Part: tooLong}}
		sameJar(t, "fields too long", impl.JarClear(fields, siteRules, "a.com", tooLong[1:], wide), fields)
	}
}

func clearByForm(l []impl.Cookie, rules []string, domain string, part string, wide bool) []impl.Cookie {
	if !jarByForm(l) || !domainByForm(rules, domain) || len(part) > 120 {
		return l
	}
	return slices.DeleteFunc(slices.Clone(l), func(c impl.Cookie) bool {
		parts := []string{part}
		if wide {
			parts = append(parts, "")
		}
		return hostFitsByForm(c.Host, domain) && slices.Contains(parts, c.Part)
	})
}

func TestClearDrawn(t *testing.T) {
	r := rand.New(rand.NewSource(13))
	gone := 0
	for range 6000 {
		l, domain, part, wide := someJar(r), oneOf(r, jarHosts), oneOf(r, jarParts), r.Intn(2) == 0
		got, want := impl.JarClear(l, siteRules, domain, part, wide), clearByForm(l, siteRules, domain, part, wide)
		if !slices.Equal(got, want) {
			t.Fatalf("%+v, %q, %q, %v: got %+v, want %+v", l, domain, part, wide, got, want)
		}
		if len(got) < len(l) {
			gone++
		}
		if jarByForm(l) && impl.DomainRight(siteRules, domain) {
			clearedGoesNoMore(t, l, got, domain, part, wide)
		}
	}
	if gone < 500 {
		t.Errorf("%d times something goes: this tells little", gone)
	}
}

// clearedGoesNoMore: the promise, at a place of that domain, and at others.
func clearedGoesNoMore(t *testing.T, l []impl.Cookie, left []impl.Cookie, domain string, part string, wide bool) {
	t.Helper()
	same(t, "what is left is right", impl.JarRight(left), true)
	for _, host := range append([]string{domain}, jarHosts...) {
		for _, path := range []string{"/", "/p/q/r", "/pq"} {
			u := impl.Url{Scheme: "https", Host: host, Port: 443, Path: path}
			goes := impl.JarFor(left, u, part, wide, wide, 0)
			if impl.HostFits(host, domain) {
				// Those of a suffix alone may still go: their host is another.
				for _, p := range goes {
					other := func(c impl.Cookie) bool { return pairOf(c) == p && !impl.HostFits(c.Host, domain) }
					same(t, "what goes is of another host", slices.ContainsFunc(left, other), true)
				}
			}
			if !impl.HostFits(host, domain) && !impl.HostFits(domain, host) {
				sameFor(t, "at another host", goes, impl.JarFor(l, u, part, wide, wide, 0))
			}
			sameFor(t, "in another part", impl.JarFor(left, u, "https://other.com", false, false, 0), impl.JarFor(l, u, "https://other.com", false, false, 0))
		}
	}
	for _, c := range l {
		if !impl.HostFits(c.Host, domain) || c.Part != part && c.Part != "" || c.Part != part && !wide {
			same(t, "it stays", slices.Contains(left, c), true)
		}
	}
}

func TestClearIsNewMemory(t *testing.T) {
	cases := []struct {
		what   string
		domain string
		want   []impl.Cookie
	}{
		{"some go", "a.com", leftOf(1, 4)}, {"none goes", "c.com", clearJar}, {"as it is", "com", clearJar},
	}
	for _, c := range cases {
		var b inBytes
		held := b.jar(clearJar)
		rules := append(slices.Clone(siteRules), "zzz")
		got := impl.JarClear(held, rules[:4], b.text(c.domain), b.text("https://t.com"), false)
		sameBehind(t, held, clearJar)
		sameList(t, "the rules, and what lies behind them", rules, append(slices.Clone(siteRules), "zzz"))
		b.turn()
		clear(held)
		sameJar(t, c.what+": behind the call", got, c.want)
		got[0].Name = "other"
		sameJar(t, c.what+": the list handed in", held[:cap(held)], make([]impl.Cookie, cap(held)))
	}
	wrong := append(slices.Clone(clearJar), aCookie)
	var b inBytes
	held := b.jar(wrong)
	got := impl.JarClear(held, siteRules, "a.com", "https://t.com", true)
	sameBehind(t, held, wrong)
	b.turn()
	clear(held)
	sameJar(t, "a jar that is not right, behind the call", got, wrong)
}

func TestOld(t *testing.T) {
	l := manyCookies(6)
	for i, until := range []int64{0, 1, 9, 10, 11, impl.MaxTime} {
		l[i].Until = until
	}
	cases := []struct {
		now  int64
		left []int
	}{
		{0, []int{0, 1, 2, 3, 4, 5}}, {1, []int{0, 2, 3, 4, 5}}, {8, []int{0, 2, 3, 4, 5}}, {9, []int{0, 3, 4, 5}}, {10, []int{0, 4, 5}}, {11, []int{0, 5}},
		{12, []int{0, 5}}, {impl.MaxTime - 1, []int{0, 5}}, {impl.MaxTime, []int{0}},
	}
	for _, c := range cases {
		var want []impl.Cookie
		for _, at := range c.left {
			want = append(want, l[at])
		}
		sameJar(t, fmt.Sprint("at ", c.now), impl.JarOld(l, c.now), want)
	}
	sameJar(t, "none", impl.JarOld(nil, 0), nil)
	sameJar(t, "all are old", impl.JarOld(l[1:4], 10), nil)
	full := manyCookies(impl.MaxJar)
	sameJar(t, "a full jar", impl.JarOld(full, 49), full)
	sameJar(t, "a full jar, old", impl.JarOld(full, 50), nil)
}

func TestOldOfWhatIsWrong(t *testing.T) {
	for _, l := range append(wrongJars(), manyCookies(impl.MaxList+1)) {
		sameJar(t, shown(l), impl.JarOld(l, 0), nil)
	}
	for _, now := range wrongTimes {
		sameJar(t, fmt.Sprint("at ", now), impl.JarOld(manyCookies(3), now), nil)
		sameJar(t, fmt.Sprint("no end, at ", now), impl.JarOld([]impl.Cookie{nearCookie}, now), nil)
	}
}

func TestOldDrawn(t *testing.T) {
	r := rand.New(rand.NewSource(15))
	for range 5000 {
		l, now := someJar(r), someTime(r)
		var want []impl.Cookie
		for _, c := range l {
			if jarByForm(l) && timeByForm(now) && (c.Until < 1 || c.Until > now) {
				want = append(want, c)
			}
		}
		if got := impl.JarOld(l, now); !slices.Equal(got, want) {
			t.Fatalf("%+v at %d: got %+v, want %+v", l, now, got, want)
		}
	}
}

func TestOldIsNewMemory(t *testing.T) {
	for _, now := range []int64{0, 1} {
		var b inBytes
		held := b.jar(clearJar)
		want := leftOf()
		if now == 1 {
			want = leftOf(4)
		}
		got := impl.JarOld(held, now)
		sameBehind(t, held, clearJar)
		b.turn()
		clear(held)
		sameJar(t, "behind the call", got, want)
	}
}
