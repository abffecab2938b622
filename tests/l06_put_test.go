package tests

import (
	"fmt"
	"math/rand"
	"slices"
	"strings"
	"testing"
	"unsafe"

	"loop.example/g00551/impl"
)

// Promise 10: a cookie that is set is the last one in the jar, and no other of
// its place is in it.

func setCookieOf(t *testing.T, text string) impl.SetCookie {
	t.Helper()
	out := impl.SetRead(text)
	same(t, text, out.Code, impl.OK)
	return out.Set
}

// puts: into an empty jar, by siteRules, in a page of https://t.com, at 10; with
// what is in the jar then, if no code is told.
var puts = []struct {
	what string
	set  string
	url  string
	want impl.Cookie
	code int64
}{
	{"as little as may be", "a=", "http://a.com/", impl.Cookie{Name: "a", Host: "a.com", Alone: true, Path: "/", Made: 1}, impl.OK},
	{"a value", "a=1", "http://a.com/", impl.Cookie{Name: "a", Value: "1", Host: "a.com", Alone: true, Path: "/", Made: 1}, impl.OK},
	{"the path of the url is not taken", "a=1", "http://a.com/p/q", impl.Cookie{Name: "a", Value: "1", Host: "a.com", Alone: true, Path: "/", Made: 1}, impl.OK},
	{"a path", "a=1; Path=/z", "http://a.com/p", impl.Cookie{Name: "a", Value: "1", Host: "a.com", Alone: true, Path: "/z", Made: 1}, impl.OK},
	{"the port is not asked", "a=1", "http://a.com:8080/", impl.Cookie{Name: "a", Value: "1", Host: "a.com", Alone: true, Path: "/", Made: 1}, impl.OK},
	{"MdStrict", "a=1; SameSite=Strict", "http://a.com/", impl.Cookie{Name: "a", Value: "1", Host: "a.com", Alone: true, Path: "/", Mode: impl.MdStrict, Made: 1}, impl.OK},
	{"all that there is", "a=1; Domain=a.com; Path=/p; Max-Age=5; Secure; SameSite=None; Partitioned", "https://x.a.com/",
		impl.Cookie{Name: "a", Value: "1", Host: "a.com", Path: "/p", Secure: true, Mode: impl.MdNone, Part: "https://t.com", Until: 15, Made: 1}, impl.OK},

	{"of a host that is a suffix, alone", "a=1", "http://com/", impl.Cookie{Name: "a", Value: "1", Host: "com", Alone: true, Path: "/", Made: 1}, impl.OK},
	{"a domain that is the host", "a=1; Domain=a.com", "http://a.com/", impl.Cookie{Name: "a", Value: "1", Host: "a.com", Path: "/", Made: 1}, impl.OK},
	{"a domain above the host", "a=1; Domain=a.com", "http://y.x.a.com/", impl.Cookie{Name: "a", Value: "1", Host: "a.com", Path: "/", Made: 1}, impl.OK},
	{"a domain between", "a=1; Domain=x.a.com", "http://y.x.a.com/", impl.Cookie{Name: "a", Value: "1", Host: "x.a.com", Path: "/", Made: 1}, impl.OK},
	{"a domain that is the host, with labels ahead", "a=1; Domain=y.x.a.com", "http://y.x.a.com/", impl.Cookie{Name: "a", Value: "1", Host: "y.x.a.com", Path: "/", Made: 1}, impl.OK},
	{"a domain by a star", "a=1; Domain=shop.co.uk", "http://www.shop.co.uk/", impl.Cookie{Name: "a", Value: "1", Host: "shop.co.uk", Path: "/", Made: 1}, impl.OK},
	{"a domain by an exclamation mark", "a=1; Domain=city.uk", "http://www.city.uk/", impl.Cookie{Name: "a", Value: "1", Host: "city.uk", Path: "/", Made: 1}, impl.OK},
	{"a domain by no rule", "a=1; Domain=a.zz", "http://x.a.zz/", impl.Cookie{Name: "a", Value: "1", Host: "a.zz", Path: "/", Made: 1}, impl.OK},
	{"a domain that is a suffix", "a=1; Domain=com", "http://a.com/", impl.Cookie{}, impl.ErrDenied},
	{"a domain that is a suffix of two labels", "a=1; Domain=co.uk", "http://shop.co.uk/", impl.Cookie{}, impl.ErrDenied},
	{"a domain that is above a suffix", "a=1; Domain=com", "http://a.io.com/", impl.Cookie{}, impl.ErrDenied},
	{"a domain that would be one without another rule", "a=1; Domain=io.com", "http://a.io.com/", impl.Cookie{}, impl.ErrDenied},
	{"a domain above one by an exclamation mark", "a=1; Domain=uk", "http://city.uk/", impl.Cookie{}, impl.ErrDenied},
	{"a domain that is a suffix by no rule", "a=1; Domain=zz", "http://a.zz/", impl.Cookie{}, impl.ErrDenied},
	{"of a host that is a suffix, its own domain", "a=1; Domain=com", "http://com/", impl.Cookie{}, impl.ErrDenied},
	{"of a host that is a suffix by a star, its own domain", "a=1; Domain=co.uk", "http://co.uk/", impl.Cookie{}, impl.ErrDenied},
	{"of a host that is a suffix, a domain below", "a=1; Domain=a.com", "http://com/", impl.Cookie{}, impl.ErrDenied},
	{"another domain", "a=1; Domain=b.com", "http://a.com/", impl.Cookie{}, impl.ErrDenied},
	{"another domain of the same house", "a=1; Domain=y.a.com", "http://x.a.com/", impl.Cookie{}, impl.ErrDenied},
	{"a domain below the host", "a=1; Domain=x.a.com", "http://a.com/", impl.Cookie{}, impl.ErrDenied},
	{"a domain that ends with the same letters", "a=1; Domain=a.com", "http://xa.com/", impl.Cookie{}, impl.ErrDenied},

	{"Secure by https", "a=1; Secure", "https://a.com/", impl.Cookie{Name: "a", Value: "1", Host: "a.com", Alone: true, Path: "/", Secure: true, Made: 1}, impl.OK},
	{"Secure by http", "a=1; Secure", "http://a.com/", impl.Cookie{}, impl.ErrDenied},
	{"Secure by http at the port of https", "a=1; Secure", "http://a.com:443/", impl.Cookie{}, impl.ErrDenied},
	{"Secure by https at the port of http", "a=1; Secure", "https://a.com:80/", impl.Cookie{Name: "a", Value: "1", Host: "a.com", Alone: true, Path: "/", Secure: true, Made: 1}, impl.OK},
	{"not Secure by https", "a=1", "https://a.com/", impl.Cookie{Name: "a", Value: "1", Host: "a.com", Alone: true, Path: "/", Made: 1}, impl.OK},
	{"MdNone and Secure", "a=1; Secure; SameSite=None", "https://a.com/", impl.Cookie{Name: "a", Value: "1", Host: "a.com", Alone: true, Path: "/", Secure: true, Mode: impl.MdNone, Made: 1}, impl.OK},
	{"MdNone, not Secure, by https", "a=1; SameSite=None", "https://a.com/", impl.Cookie{}, impl.ErrDenied},
	{"MdNone, not Secure, by http", "a=1; SameSite=None", "http://a.com/", impl.Cookie{}, impl.ErrDenied},
	{"MdNone and Secure by http", "a=1; Secure; SameSite=None", "http://a.com/", impl.Cookie{}, impl.ErrDenied},
	{"Parted and Secure", "a=1; Secure; Partitioned", "https://a.com/", impl.Cookie{Name: "a", Value: "1", Host: "a.com", Alone: true, Path: "/", Secure: true, Part: "https://t.com", Made: 1}, impl.OK},
	{"Parted, not Secure, by https", "a=1; Partitioned", "https://a.com/", impl.Cookie{}, impl.ErrDenied},
	{"Parted, not Secure, by http", "a=1; Partitioned", "http://a.com/", impl.Cookie{}, impl.ErrDenied},
	{"Parted and Secure by http", "a=1; Secure; Partitioned", "http://a.com/", impl.Cookie{}, impl.ErrDenied},
	{"Parted, Secure and MdStrict", "a=1; Secure; SameSite=Strict; Partitioned", "https://a.com/",
		impl.Cookie{Name: "a", Value: "1", Host: "a.com", Alone: true, Path: "/", Secure: true, Mode: impl.MdStrict, Part: "https://t.com", Made: 1}, impl.OK},

	{"an age", "a=1; Max-Age=5", "http://a.com/", impl.Cookie{Name: "a", Value: "1", Host: "a.com", Alone: true, Path: "/", Until: 15, Made: 1}, impl.OK},
	{"the least age", "a=1; Max-Age=1", "http://a.com/", impl.Cookie{Name: "a", Value: "1", Host: "a.com", Alone: true, Path: "/", Until: 11, Made: 1}, impl.OK},
	{"an age that ends at MaxTime", "a=1; Max-Age=999990", "http://a.com/", impl.Cookie{Name: "a", Value: "1", Host: "a.com", Alone: true, Path: "/", Until: impl.MaxTime, Made: 1}, impl.OK},
	{"an age that passes MaxTime", "a=1; Max-Age=999991", "http://a.com/", impl.Cookie{Name: "a", Value: "1", Host: "a.com", Alone: true, Path: "/", Until: impl.MaxTime, Made: 1}, impl.OK},
	{"the greatest age", "a=1; Max-Age=1000000", "http://a.com/", impl.Cookie{Name: "a", Value: "1", Host: "a.com", Alone: true, Path: "/", Until: impl.MaxTime, Made: 1}, impl.OK},
	{"of what is denied an age of 0 is, too", "a=1; Domain=b.com; Max-Age=0", "http://a.com/", impl.Cookie{}, impl.ErrDenied},
}

func TestPutsIntoAnEmptyJar(t *testing.T) {
	for _, c := range puts {
		want := impl.JarOut{Code: c.code}
		if c.code == impl.OK {
			want.Jar = []impl.Cookie{c.want}
		}
		set, u := setCookieOf(t, c.set), urlOf(t, c.url)
		for _, l := range [][]impl.Cookie{nil, {}} {
			sameJarOut(t, c.what, impl.JarPut(l, siteRules, set, u, "https://t.com", 10), want)
		}
		sameJarOut(t, c.what+": by form", putByForm(nil, siteRules, set, u, "https://t.com", 10), want)
		same(t, c.what+": what comes is right", impl.JarRight(want.Jar), true)
	}
}

func TestPutsByOtherRules(t *testing.T) {
	put := func(rules []string, set string, url string) int64 {
		return impl.JarPut(nil, rules, setCookieOf(t, set), urlOf(t, url), "", 0).Code
	}
	same(t, "no rules", put(nil, "a=1; Domain=co.uk", "http://shop.co.uk/"), impl.OK)
	same(t, "no rules, a suffix", put(nil, "a=1; Domain=uk", "http://shop.co.uk/"), impl.ErrDenied)
	same(t, "by a rule", put([]string{"co.uk"}, "a=1; Domain=co.uk", "http://shop.co.uk/"), impl.ErrDenied)
	same(t, "the host is a rule", put([]string{"shop.co.uk"}, "a=1; Domain=shop.co.uk", "http://shop.co.uk/"), impl.ErrDenied)
	same(t, "the host is a rule, alone", put([]string{"shop.co.uk"}, "a=1", "http://shop.co.uk/"), impl.OK)
	same(t, "most rules", put(manyRules(impl.MaxRules), "a=1; Domain=a.com", "http://x.a.com/"), impl.OK)
}

func TestPutsByTime(t *testing.T) {
	u := urlOf(t, "https://a.com/")
	cases := []struct {
		set   string
		now   int64
		until int64
	}{
		{"n=v", 0, 0}, {"n=v", 1, 0}, {"n=v", impl.MaxTime, 0},
		{"n=v; Max-Age=1", 0, 1}, {"n=v; Max-Age=1", impl.MaxTime - 1, impl.MaxTime}, {"n=v; Max-Age=1", impl.MaxTime, impl.MaxTime}, {"n=v; Max-Age=2", impl.MaxTime - 1, impl.MaxTime},
		{"n=v; Max-Age=1000000", 0, impl.MaxTime}, {"n=v; Max-Age=1000000", 1, impl.MaxTime}, {"n=v; Max-Age=1000000", impl.MaxTime, impl.MaxTime}, {"n=v; Max-Age=7", 20, 27},
	}
	for _, c := range cases {
		want := impl.Cookie{Name: "n", Value: "v", Host: "a.com", Alone: true, Path: "/", Until: c.until, Made: 1}
		sameJarOut(t, fmt.Sprint(c.set, " at ", c.now), impl.JarPut(nil, siteRules, setCookieOf(t, c.set), u, "", c.now), impl.JarOut{Jar: []impl.Cookie{want}})
	}
	for _, now := range []int64{0, 1, 10, impl.MaxTime} {
		sameJarOut(t, "an age of 0", impl.JarPut(nil, siteRules, setCookieOf(t, "n=v; Max-Age=0"), u, "", now), impl.JarOut{})
	}
}

func TestPutsByPart(t *testing.T) {
	u := urlOf(t, "https://a.com/")
	for _, part := range []string{"", "x", "https://t.com", "\x00é\xff", longestPart} {
		plain := impl.Cookie{Name: "n", Value: "v", Host: "a.com", Alone: true, Path: "/", Made: 1}
		sameJarOut(t, "not Parted, "+part, impl.JarPut(nil, siteRules, setCookieOf(t, "n=v"), u, part, 0), impl.JarOut{Jar: []impl.Cookie{plain}})
		want := impl.JarOut{Jar: []impl.Cookie{turned(plain, func(c *impl.Cookie) { c.Secure, c.Part = true, part })}}
		if part == "" {
			want = impl.JarOut{Code: impl.ErrForm}
		}
		sameJarOut(t, "Parted, "+part, impl.JarPut(nil, siteRules, setCookieOf(t, "n=v; Secure; Partitioned"), u, part, 0), want)
	}
	for _, set := range []string{"n=v", "n=v; Secure; Partitioned"} {
		for _, part := range []string{longestPart + "x", tooLong[:impl.MaxBytes]} {
			sameJarOut(t, "a part too long", impl.JarPut(nil, siteRules, setCookieOf(t, set), u, part, 0), impl.JarOut{Code: impl.ErrForm})
		}
		sameJarOut(t, "a text too long", impl.JarPut(nil, siteRules, setCookieOf(t, set), u, tooLong, 0), impl.JarOut{Code: impl.ErrSize})
	}
}

// putArgs: what JarPut is given.
type putArgs struct {
	l     []impl.Cookie
	rules []string
	c     impl.SetCookie
	u     impl.Url
	part  string
	now   int64
}

func (a putArgs) put() impl.JarOut {
	return impl.JarPut(a.l, a.rules, a.c, a.u, a.part, a.now)
}

// endedJar: a right one, behind which nothing can be made.
func endedJar() []impl.Cookie {
	l := manyCookies(3)
	l[2].Made = impl.MaxTime
	return l
}

// putFaults: in the order in which they are named; of is what they turn.
var putFaults = []struct {
	what string
	code int64
	of   string
	turn func(a *putArgs)
}{
	{"a list too long", impl.ErrSize, "l", func(a *putArgs) { a.l = manyCookies(impl.MaxList + 1) }},
	{"rules too long", impl.ErrSize, "rules", func(a *putArgs) { a.rules = manyRules(impl.MaxList + 1) }},
	{"a text too long", impl.ErrSize, "part", func(a *putArgs) { a.part = tooLong }},
	{"one cookie too many", impl.ErrForm, "l", func(a *putArgs) { a.l = manyCookies(impl.MaxJar + 1) }},
	{"as many cookies as a list may have", impl.ErrForm, "l", func(a *putArgs) { a.l = manyCookies(impl.MaxList) }},
	{"a jar that is not right", impl.ErrForm, "l", func(a *putArgs) { a.l = make([]impl.Cookie, 1) }},
	{"an ended jar that is not right", impl.ErrForm, "l", func(a *putArgs) { a.l = append(endedJar(), aCookie) }},
	{"rules that are not right", impl.ErrForm, "rules", func(a *putArgs) { a.rules = []string{"b", "a"} }},
	{"one rule too many", impl.ErrForm, "rules", func(a *putArgs) { a.rules = manyRules(impl.MaxRules + 1) }},
	{"as many rules as a list may have", impl.ErrForm, "rules", func(a *putArgs) { a.rules = manyRules(impl.MaxList) }},
	{"a set that is not right", impl.ErrForm, "c", func(a *putArgs) { a.c.Name = "" }},
	{"a url that is not right", impl.ErrForm, "u", func(a *putArgs) { a.u.Port = 0 }},
	{"a part too long", impl.ErrForm, "part", func(a *putArgs) { a.part = longestPart + "x" }},
	{"no part", impl.ErrForm, "c part", func(a *putArgs) { a.c.Parted, a.c.Secure, a.part = true, true, "" }},
	{"no part, not Secure", impl.ErrForm, "c part", func(a *putArgs) { a.c.Parted, a.part = true, "" }},
	{"below all times", impl.ErrForm, "now", func(a *putArgs) { a.now = -1 }},
	{"above all times", impl.ErrForm, "now", func(a *putArgs) { a.now = impl.MaxTime + 1 }},
	{"Secure by http", impl.ErrDenied, "c u", func(a *putArgs) { a.u.Scheme, a.c.Secure = "http", true }},
	{"MdNone, not Secure", impl.ErrDenied, "c", func(a *putArgs) { a.c.Mode = impl.MdNone }},
	{"Parted, not Secure", impl.ErrDenied, "c", func(a *putArgs) { a.c.Parted = true }},
	{"another domain", impl.ErrDenied, "c", func(a *putArgs) { a.c.Domain = "b.com" }},
	{"a domain that is a suffix", impl.ErrDenied, "c", func(a *putArgs) { a.c.Domain = "com" }},
	{"an ended jar", impl.ErrFull, "l", func(a *putArgs) { a.l = endedJar() }},
}

// Each fault by itself, and two at once: the first one is told.
func TestPutFaultsInTheirOrder(t *testing.T) {
	begin := putArgs{manyCookies(2), siteRules, setCookieOf(t, "a=1"), urlOf(t, "https://x.a.com/"), "https://t.com", 10}
	same(t, "no fault", begin.put().Code, impl.OK)
	for i, first := range putFaults {
		a := begin
		first.turn(&a)
		sameJarOut(t, first.what, a.put(), impl.JarOut{Code: first.code})
		for _, second := range putFaults[i+1:] {
			both := func(of string) bool { return slices.Contains(strings.Fields(second.of), of) }
			if slices.ContainsFunc(strings.Fields(first.of), both) {
				// They turn the same thing: the first one would be gone.
				continue
			}
			b := a
			second.turn(&b)
			sameJarOut(t, first.what+", "+second.what, b.put(), impl.JarOut{Code: first.code})
		}
	}
}

func TestPutsOfWhatIsWrong(t *testing.T) {
	begin := putArgs{manyCookies(2), siteRules, setCookieOf(t, "a=1"), urlOf(t, "https://x.a.com/"), "https://t.com", 10}
	check := func(what string, turn func(a *putArgs), code int64) {
		t.Helper()
		a := begin
		turn(&a)
		sameJarOut(t, what, a.put(), impl.JarOut{Code: code})
	}
	for _, l := range wrongJars() {
		check(shown(l), func(a *putArgs) { a.l = l }, impl.ErrForm)
	}
	for _, rules := range wrongRuleLists {
		code := int64(impl.ErrForm)
		if len(rules) > impl.MaxList {
			code = impl.ErrSize
		}
		check(shown(rules), func(a *putArgs) { a.rules = rules }, code)
	}
	for _, c := range wrongSets {
		check(shown(c), func(a *putArgs) { a.c = c }, impl.ErrForm)
	}
	for _, u := range wrongUrls {
		check(shown(u), func(a *putArgs) { a.u = u }, impl.ErrForm)
	}
	for _, now := range wrongTimes {
		check(fmt.Sprint(now), func(a *putArgs) { a.now = now }, impl.ErrForm)
	}
	// Of an empty jar nothing else may be wrong, either.
	for _, now := range wrongTimes {
		check(fmt.Sprint(now, ", an empty jar"), func(a *putArgs) { a.l, a.now = nil, now }, impl.ErrForm)
	}
}

// placedCookie: what "n=w; Path=/p; Secure; Partitioned" is, set at x.a.com in a
// page of https://t.com: aCookie is not of its place, since it is not Alone.
func placedCookie(value string, made int64) impl.Cookie {
	return impl.Cookie{Name: "n", Value: value, Host: "x.a.com", Alone: true, Path: "/p", Secure: true, Part: "https://t.com", Made: made}
}

func TestPutsOfOnePlace(t *testing.T) {
	u := urlOf(t, "https://x.a.com/")
	set := setCookieOf(t, "n=w; Path=/p; Secure; Partitioned")
	gone := setCookieOf(t, "n=w; Path=/p; Max-Age=0; Secure; Partitioned")
	for count := range impl.MaxJar {
		for at := range count + 1 {
			others := manyCookies(count + 1)
			l := slices.Clone(others)
			l[at] = placedCookie("old", int64(at+1))
			others = slices.Delete(others, at, at+1)
			want := append(slices.Clone(others), placedCookie("w", int64(count+2)))
			what := fmt.Sprint("at ", at, " of ", count+1)
			sameJarOut(t, what, impl.JarPut(l, siteRules, set, u, "https://t.com", 10), impl.JarOut{Jar: want})
			sameJarOut(t, what+", gone", impl.JarPut(l, siteRules, gone, u, "https://t.com", 10), impl.JarOut{Jar: others})
		}
	}
}

// Of each field of the place another one: that stays.
func TestPutsBesideOtherPlaces(t *testing.T) {
	u := urlOf(t, "https://x.a.com/")
	set := setCookieOf(t, "n=w; Path=/p; Secure; Partitioned")
	gone := setCookieOf(t, "n=w; Path=/p; Max-Age=0; Secure; Partitioned")
	for _, turn := range placeTurns {
		old := turned(placedCookie("old", 4), turn.turn)
		if turn.what == "Alone" {
			old.Alone = false
		}
		if turn.what == "Secure" {
			continue
		}
		want := []impl.Cookie{placedCookie("w", 5)}
		var left []impl.Cookie
		if turn.place {
			want = []impl.Cookie{old, placedCookie("w", 5)}
			left = []impl.Cookie{old}
		}
		sameJarOut(t, turn.what, impl.JarPut([]impl.Cookie{old}, siteRules, set, u, "https://t.com", 10), impl.JarOut{Jar: want})
		sameJarOut(t, turn.what+", gone", impl.JarPut([]impl.Cookie{old}, siteRules, gone, u, "https://t.com", 10), impl.JarOut{Jar: left})
	}
	// Secure is none of its place: without it the other one goes, too.
	old := impl.Cookie{Name: "n", Value: "old", Host: "x.a.com", Alone: true, Path: "/", Secure: true, Mode: impl.MdNone, Until: 5, Made: 9}
	want := impl.Cookie{Name: "n", Host: "x.a.com", Alone: true, Path: "/", Made: 10}
	sameJarOut(t, "Secure", impl.JarPut([]impl.Cookie{old}, siteRules, setCookieOf(t, "n="), u, "", 10), impl.JarOut{Jar: []impl.Cookie{want}})
}

func TestPutsIntoAFullJar(t *testing.T) {
	u := urlOf(t, "https://x.a.com/")
	set := setCookieOf(t, "n=w; Path=/p; Secure; Partitioned")
	gone := setCookieOf(t, "n=w; Path=/p; Max-Age=0; Secure; Partitioned")
	l := manyCookies(impl.MaxJar)
	put := impl.JarPut(l, siteRules, set, u, "https://t.com", 10)
	sameJarOut(t, "the first one goes", put, impl.JarOut{Jar: append(slices.Clone(l[1:]), placedCookie("w", 13))})
	sameJarOut(t, "gone", impl.JarPut(l, siteRules, gone, u, "https://t.com", 10), impl.JarOut{Jar: l})
	for at := range l {
		others := slices.Delete(slices.Clone(l), at, at+1)
		held := slices.Clone(l)
		held[at] = placedCookie("old", int64(at+1))
		put := impl.JarPut(held, siteRules, set, u, "https://t.com", 10)
		sameJarOut(t, fmt.Sprint("of its place at ", at), put, impl.JarOut{Jar: append(slices.Clone(others), placedCookie("w", 13))})
		sameJarOut(t, fmt.Sprint("gone at ", at), impl.JarPut(held, siteRules, gone, u, "https://t.com", 10), impl.JarOut{Jar: others})
	}
	short := l[:impl.MaxJar-1]
	sameJarOut(t, "one less", impl.JarPut(short, siteRules, set, u, "https://t.com", 10), impl.JarOut{Jar: append(slices.Clone(short), placedCookie("w", 12))})
}

func TestPutsByTheLastMade(t *testing.T) {
	u := urlOf(t, "https://x.a.com/")
	set := setCookieOf(t, "n=w; Path=/p; Secure; Partitioned")
	gone := setCookieOf(t, "n=w; Path=/p; Max-Age=0; Secure; Partitioned")
	for _, made := range []int64{0, 1, 2, 500, impl.MaxTime - 1} {
		old := turned(aCookie, func(c *impl.Cookie) { c.Made = made })
		sameJarOut(t, fmt.Sprint(made), impl.JarPut([]impl.Cookie{old}, siteRules, set, u, "https://t.com", 10), impl.JarOut{Jar: []impl.Cookie{old, placedCookie("w", made+1)}})
		last := placedCookie("old", made)
		sameJarOut(t, fmt.Sprint(made, ", of its place"), impl.JarPut([]impl.Cookie{last}, siteRules, set, u, "https://t.com", 10), impl.JarOut{Jar: []impl.Cookie{placedCookie("w", made+1)}})
	}
	for _, l := range [][]impl.Cookie{{placedCookie("old", impl.MaxTime)}, {placedCookie("old", 3), turned(aCookie, func(c *impl.Cookie) { c.Made = impl.MaxTime })}, endedJar()} {
		sameJarOut(t, "full", impl.JarPut(l, siteRules, set, u, "https://t.com", 10), impl.JarOut{Code: impl.ErrFull})
		sameJarOut(t, "full, gone", impl.JarPut(l, siteRules, gone, u, "https://t.com", 10), impl.JarOut{Code: impl.ErrFull})
	}
}

// putByForm: one sentence of the document after the other.
func putByForm(l []impl.Cookie, rules []string, c impl.SetCookie, u impl.Url, part string, now int64) impl.JarOut {
	if !jarByForm(l) || !impl.RulesRight(rules) || !impl.SetRight(c) || !impl.UrlRight(u) || len(part) > 120 || part == "" && c.Parted || !timeByForm(now) {
		return impl.JarOut{Code: impl.ErrForm}
	}
	denied := c.Secure && u.Scheme == "http" || !c.Secure && c.Mode == 2 || !c.Secure && c.Parted
	if c.Domain != "" {
		house := impl.SuffixOf(rules, u.Host).Domain
		denied = denied || house == "" || !hostFitsByForm(u.Host, c.Domain) || !hostFitsByForm(c.Domain, house)
	}
	if denied {
		return impl.JarOut{Code: impl.ErrDenied}
	}
	put := impl.Cookie{Name: c.Name, Value: c.Value, Host: u.Host, Alone: true, Path: "/", Secure: c.Secure, Mode: c.Mode, Made: 1}
	if len(l) > 0 {
		put.Made = l[len(l)-1].Made + 1
	}
	if put.Made > 1000000 {
		return impl.JarOut{Code: impl.ErrFull}
	}
	if c.Domain != "" {
		put.Host, put.Alone = c.Domain, false
	}
	if c.Path != "" {
		put.Path = c.Path
	}
	if c.Parted {
		put.Part = part
	}
	if c.Age > -1 {
		put.Until = int64(min(now+c.Age, 1000000))
	}
	l = slices.DeleteFunc(slices.Clone(l), func(old impl.Cookie) bool { return placeByForm(old) == placeByForm(put) })
	if c.Age != 0 {
		l = append(l, put)
	}
	if len(l) == 13 {
		l = l[1:]
	}
	return impl.JarOut{Jar: l}
}

func someSet(r *rand.Rand) impl.SetCookie {
	c := impl.SetCookie{Name: oneOf(r, []string{"a", "b"}), Value: oneOf(r, []string{"", "1", "2"}), Age: oneOf(r, []int64{-1, -1, 0, 1, 5, impl.MaxTime}),
		Secure: r.Intn(4) > 0, Mode: int64(r.Intn(3)), Parted: r.Intn(2) == 0}
	if r.Intn(2) == 0 {
		c.Domain = oneOf(r, jarHosts)
	}
	if r.Intn(2) == 0 {
		c.Path = oneOf(r, jarPaths)
	}
	if r.Intn(50) == 0 {
		c = oneOf(r, wrongSets)
	}
	return c
}

func someUrl(r *rand.Rand) impl.Url {
	if r.Intn(50) == 0 {
		return oneOf(r, wrongUrls)
	}
	return impl.Url{Scheme: oneOf(r, []string{"http", "https", "https", "https"}), Host: oneOf(r, jarHosts), Port: oneOf(r, []int64{80, 443, 8080}), Path: oneOf(r, jarPaths)}
}

func someTime(r *rand.Rand) int64 {
	if r.Intn(50) == 0 {
		return oneOf(r, wrongTimes)
	}
	return oneOf(r, []int64{0, 4, 5, 6, 9, 10, 11, 15, impl.MaxTime - 1, impl.MaxTime})
}

func TestPutsDrawn(t *testing.T) {
	r := rand.New(rand.NewSource(10))
	codes := map[int64]int{}
	for range 30000 {
		l, c, u, part, now := someJar(r), someSet(r), someUrl(r), oneOf(r, jarParts), someTime(r)
		got := impl.JarPut(l, siteRules, c, u, part, now)
		want := putByForm(l, siteRules, c, u, part, now)
		codes[got.Code]++
		if got.Code != want.Code || !slices.Equal(got.Jar, want.Jar) {
			t.Fatalf("%+v, %+v, %+v, %q, %d: got %+v, want %+v", l, c, u, part, now, got, want)
		}
	}
	for _, code := range []int64{impl.OK, impl.ErrForm, impl.ErrDenied, impl.ErrFull} {
		if codes[code] < 100 {
			t.Errorf("code %d is told %d times: this tells little", code, codes[code])
		}
	}
}

// One put behind the other, into one jar: the promise, at each step.
func TestPutsOneByOne(t *testing.T) {
	r := rand.New(rand.NewSource(11))
	for range 200 {
		var l []impl.Cookie
		for range 60 {
			c, u, part := someSet(r), someUrl(r), oneOf(r, jarParts)
			out := impl.JarPut(l, siteRules, c, u, part, someTime(r))
			if out.Code != impl.OK {
				sameJar(t, "beside a code", out.Jar, nil)
				continue
			}
			same(t, "right", impl.JarRight(out.Jar), true)
			if c.Age != 0 {
				last := out.Jar[len(out.Jar)-1]
				same(t, "the last one", last.Name+"="+last.Value, c.Name+"="+c.Value)
				for _, other := range out.Jar[:len(out.Jar)-1] {
					same(t, "no other of its place", placeByForm(other) != placeByForm(last), true)
					same(t, "the others were there", slices.Contains(l, other), true)
				}
			}
			l = out.Jar
		}
	}
}

// inBytes lays texts into memory of their own, all of which can be turned.
type inBytes struct {
	all [][]byte
}

func (b *inBytes) text(text string) string {
	if text == "" {
		return ""
	}
	piece := []byte(text)
	b.all = append(b.all, piece)
	return unsafe.String(&piece[0], len(piece))
}

func (b *inBytes) turn() {
	for _, piece := range b.all {
		for i := range piece {
			piece[i] ^= 255
		}
	}
}

// jar: a copy in that memory, in a list with room behind its end.
func (b *inBytes) jar(l []impl.Cookie) []impl.Cookie {
	held := make([]impl.Cookie, 0, len(l)+3)
	for _, c := range l {
		c.Name, c.Value, c.Host, c.Path, c.Part = b.text(c.Name), b.text(c.Value), b.text(c.Host), b.text(c.Path), b.text(c.Part)
		held = append(held, c)
	}
	return held
}

// sameBehind: what was handed in is as it was, and so is the room behind it.
func sameBehind(t *testing.T, held []impl.Cookie, l []impl.Cookie) {
	t.Helper()
	sameJar(t, "the jar handed in", held, l)
	sameJar(t, "what lies behind it", held[len(held):cap(held)], make([]impl.Cookie, cap(held)-len(held)))
}

func TestPutsAreNewMemory(t *testing.T) {
	for _, count := range []int{0, 1, 3, impl.MaxJar - 1, impl.MaxJar} {
		for _, text := range []string{"n=w; Path=/p; Secure; Partitioned", "n=w; Max-Age=0", "n=w; Domain=a.com", "n0=w; Domain=x.a.com; Path=/p; Secure; Partitioned"} {
			var b inBytes
			l := manyCookies(count)
			held := b.jar(l)
			set, u := setCookieOf(t, text), urlOf(t, "https://x.a.com/q")
			want := putByForm(l, siteRules, set, u, "https://t.com", 10)
			set.Name, set.Value, set.Domain, set.Path = b.text(set.Name), b.text(set.Value), b.text(set.Domain), b.text(set.Path)
			u.Host, u.Path = b.text(u.Host), b.text(u.Path)
			rules := append(slices.Clone(siteRules), "zzz")
			got := impl.JarPut(held, rules[:4], set, u, b.text("https://t.com"), 10)
			sameBehind(t, held, l)
			sameList(t, "the rules, and what lies behind them", rules, append(slices.Clone(siteRules), "zzz"))
			b.turn()
			clear(held)
			sameJarOut(t, text+": behind the call", got, want)
			b.turn()
			for i := range got.Jar {
				got.Jar[i].Name = "other"
			}
			_ = append(got.Jar, aCookie)
			sameJar(t, "the list handed in", held[:cap(held)], make([]impl.Cookie, cap(held)))
		}
	}
}
