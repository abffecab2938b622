package tests

import (
	"fmt"
	"math/rand"
	"regexp"
	"slices"
	"strings"
	"testing"

	"loop.example/g00551/impl"
)

// Which cookies, and which jars, are right; and what the tests of chapter 7
// have in common.

// longestPart begins another one, so that what looks at its head alone is seen.
var longestPart = "https://t.com" + strings.Repeat("x", 120-len("https://t.com"))

var wrongTimes = []int64{-1, -2, -1000000, -1 << 63, impl.MaxTime + 1, impl.MaxTime * 2, 1 << 32, 1<<63 - 1}

// aCookie is right, and so is each of its fields at its edge.
var aCookie = impl.Cookie{Name: "n", Value: "v", Host: "x.a.com", Path: "/p", Secure: true, Part: "https://t.com", Until: 50, Made: 7}

func sameJar(t *testing.T, what string, got []impl.Cookie, want []impl.Cookie) {
	t.Helper()
	if !slices.Equal(got, want) {
		t.Errorf("%s: got %+v, want %+v", what, got, want)
	}
}

func sameJarOut(t *testing.T, what string, got impl.JarOut, want impl.JarOut) {
	t.Helper()
	same(t, what+": code", got.Code, want.Code)
	sameJar(t, what, got.Jar, want.Jar)
}

// turned: a cookie with something about it made otherwise.
func turned(c impl.Cookie, turn func(c *impl.Cookie)) impl.Cookie {
	turn(&c)
	return c
}

// manyCookies: so many right ones that may stand in one jar.
func manyCookies(count int) []impl.Cookie {
	var l []impl.Cookie
	for i := range count {
		l = append(l, turned(aCookie, func(c *impl.Cookie) { c.Name, c.Made = fmt.Sprint("n", i), int64(i+1) }))
	}
	return l
}

// cookieTurns: what makes aCookie otherwise, and whether it is right then.
var cookieTurns = []struct {
	what  string
	right bool
	turn  func(c *impl.Cookie)
}{
	{"as it is", true, func(c *impl.Cookie) {}},
	{"no Name", false, func(c *impl.Cookie) { c.Name = "" }},
	{"a Name of 20 bytes", true, func(c *impl.Cookie) { c.Name = longestWord }},
	{"a Name of 21 bytes", false, func(c *impl.Cookie) { c.Name = longestWord + "z" }},
	{"a Name that is no word", false, func(c *impl.Cookie) { c.Name = "a b" }},
	{"no Value", true, func(c *impl.Cookie) { c.Value = "" }},
	{"a Value of 20 bytes", true, func(c *impl.Cookie) { c.Value = longestWord }},
	{"a Value of 21 bytes", false, func(c *impl.Cookie) { c.Value = longestWord + "z" }},
	{"a Value that is no word", false, func(c *impl.Cookie) { c.Value = "a;" }},
	{"no Host", false, func(c *impl.Cookie) { c.Host = "" }},
	{"a Host of one label", true, func(c *impl.Cookie) { c.Host = "com" }},
	{"the longest Host", true, func(c *impl.Cookie) { c.Host = longestHost }},
	{"a Host of seven labels", false, func(c *impl.Cookie) { c.Host = "1.2.3.4.5.6.7" }},
	{"a Host with a dot ahead", false, func(c *impl.Cookie) { c.Host = ".a.com" }},
	{"Alone", true, func(c *impl.Cookie) { c.Alone = true }},
	{"no Path", false, func(c *impl.Cookie) { c.Path = "" }},
	{"the shortest Path", true, func(c *impl.Cookie) { c.Path = "/" }},
	{"the longest Path", true, func(c *impl.Cookie) { c.Path = longestPath }},
	{"a Path too long", false, func(c *impl.Cookie) { c.Path = longestPath + "z" }},
	{"a Path without a slash", false, func(c *impl.Cookie) { c.Path = "p" }},
	{"a Path with a semicolon", false, func(c *impl.Cookie) { c.Path = "/;" }},
	{"MdStrict", true, func(c *impl.Cookie) { c.Mode = impl.MdStrict }},
	{"MdNone", true, func(c *impl.Cookie) { c.Mode = impl.MdNone }},
	{"a Mode below", false, func(c *impl.Cookie) { c.Mode = -1 }},
	{"a Mode above", false, func(c *impl.Cookie) { c.Mode = 3 }},
	{"a Mode far above", false, func(c *impl.Cookie) { c.Mode = 1 << 32 }},
	{"no Part", true, func(c *impl.Cookie) { c.Part = "" }},
	{"a Part of one byte", true, func(c *impl.Cookie) { c.Part = "\x00" }},
	{"a Part of 120 bytes", true, func(c *impl.Cookie) { c.Part = longestPart }},
	{"a Part of 121 bytes", false, func(c *impl.Cookie) { c.Part = longestPart + "x" }},
	{"a Part of far more bytes", false, func(c *impl.Cookie) { c.Part = tooLong }},
	{"no Until", true, func(c *impl.Cookie) { c.Until = 0 }},
	{"the least Until", true, func(c *impl.Cookie) { c.Until = 1 }},
	{"the greatest Until", true, func(c *impl.Cookie) { c.Until = impl.MaxTime }},
	{"the least Made", true, func(c *impl.Cookie) { c.Made = 0 }},
	{"the greatest Made", true, func(c *impl.Cookie) { c.Made = impl.MaxTime }},
	{"a Part, not Secure", false, func(c *impl.Cookie) { c.Secure = false }},
	{"MdNone and a Part, not Secure", false, func(c *impl.Cookie) { c.Mode, c.Secure = impl.MdNone, false }},
	{"MdNone, not Secure", false, func(c *impl.Cookie) { c.Mode, c.Part, c.Secure = impl.MdNone, "", false }},
	{"MdNone, Secure, no Part", true, func(c *impl.Cookie) { c.Mode, c.Part = impl.MdNone, "" }},
	{"MdLax, not Secure, no Part", true, func(c *impl.Cookie) { c.Part, c.Secure = "", false }},
	{"MdStrict, not Secure, no Part", true, func(c *impl.Cookie) { c.Mode, c.Part, c.Secure = impl.MdStrict, "", false }},
	{"all that there is", true, func(c *impl.Cookie) {
		*c = impl.Cookie{Name: longestWord, Value: longestWord, Host: longestHost, Alone: true, Path: longestPath, Secure: true,
			Mode: impl.MdNone, Part: longestPart, Until: impl.MaxTime, Made: impl.MaxTime}
	}},
	{"as little as may be", true, func(c *impl.Cookie) { *c = impl.Cookie{Name: "n", Host: "a", Path: "/"} }},
	{"nothing", false, func(c *impl.Cookie) { *c = impl.Cookie{} }},
}

func TestCookiesByField(t *testing.T) {
	same(t, "MaxJar", impl.MaxJar, 12)
	same(t, "the longest Part", len(longestPart), 120)
	for _, turn := range cookieTurns {
		c := turned(aCookie, turn.turn)
		same(t, turn.what, impl.CookieRight(c), turn.right)
		same(t, turn.what+": by form", cookieByForm(c), turn.right)
	}
	for _, time := range wrongTimes {
		same(t, "Until "+fmt.Sprint(time), impl.CookieRight(turned(aCookie, func(c *impl.Cookie) { c.Until = time })), false)
		same(t, "Made "+fmt.Sprint(time), impl.CookieRight(turned(aCookie, func(c *impl.Cookie) { c.Made = time })), false)
	}
}

func TestCookiesByTheirTexts(t *testing.T) {
	for _, word := range rightWords {
		same(t, "Name "+word, impl.CookieRight(turned(aCookie, func(c *impl.Cookie) { c.Name = word })), word != "")
		same(t, "Value "+word, impl.CookieRight(turned(aCookie, func(c *impl.Cookie) { c.Value = word })), true)
	}
	for _, word := range wrongWords {
		same(t, "Name "+shown(word), impl.CookieRight(turned(aCookie, func(c *impl.Cookie) { c.Name = word })), false)
		same(t, "Value "+shown(word), impl.CookieRight(turned(aCookie, func(c *impl.Cookie) { c.Value = word })), false)
	}
	for _, h := range hosts {
		same(t, "Host "+h.host, impl.CookieRight(turned(aCookie, func(c *impl.Cookie) { c.Host = h.host })), true)
	}
	for _, host := range wrongHosts {
		same(t, "Host "+shown(host), impl.CookieRight(turned(aCookie, func(c *impl.Cookie) { c.Host = host })), false)
	}
	for i := range 256 {
		path := "/a" + string([]byte{byte(i)})
		want := impl.UrlRight(impl.Url{Scheme: "http", Host: "a", Port: 80, Path: path})
		same(t, "Path "+path, impl.CookieRight(turned(aCookie, func(c *impl.Cookie) { c.Path = path })), want)
	}
}

var (
	wordForm = regexp.MustCompile(`^[a-zA-Z0-9_.-]{0,20}$`)
	pathForm = regexp.MustCompile(`^/[!"$-:<->@-~]{0,39}$`)
	timeForm = regexp.MustCompile(`^(\d{1,6}|1000000)$`)
)

func timeByForm(n int64) bool {
	return timeForm.MatchString(fmt.Sprint(n))
}

// cookieByForm: is a cookie right? One sentence of the document after the other.
func cookieByForm(c impl.Cookie) bool {
	if !wordForm.MatchString(c.Name) || !wordForm.MatchString(c.Value) || c.Name == "" {
		return false
	}
	if !hostForm.MatchString(c.Host) || !pathForm.MatchString(c.Path) || !slices.Contains([]int64{0, 1, 2}, c.Mode) || len(c.Part) > 120 {
		return false
	}
	if !timeByForm(c.Until) || !timeByForm(c.Made) {
		return false
	}
	if c.Mode == 2 && !c.Secure {
		return false
	}
	return c.Part == "" || c.Secure
}

// placeByForm: Host, Alone, Path, Part and Name, in one text.
func placeByForm(c impl.Cookie) string {
	return fmt.Sprintf("%q %v %q %q %q", c.Host, c.Alone, c.Path, c.Part, c.Name)
}

func jarByForm(l []impl.Cookie) bool {
	places := map[string]int{}
	made := int64(-1)
	for _, c := range l {
		places[placeByForm(c)]++
		if !cookieByForm(c) || c.Made <= made {
			return false
		}
		made = c.Made
	}
	return len(places) == len(l) && len(l) <= 12
}

func TestJarsByCount(t *testing.T) {
	same(t, "none", impl.JarRight(nil), true)
	same(t, "an empty list", impl.JarRight([]impl.Cookie{}), true)
	for count := range impl.MaxJar + 4 {
		same(t, fmt.Sprint(count, " cookies"), impl.JarRight(manyCookies(count)), count <= impl.MaxJar)
	}
	same(t, "as many as a list may have", impl.JarRight(manyCookies(impl.MaxList)), false)
	same(t, "more than a list may have", impl.JarRight(manyCookies(impl.MaxList+1)), false)
}

// placeTurns: each turns one field, of the place or not.
var placeTurns = []struct {
	what  string
	place bool
	turn  func(c *impl.Cookie)
}{
	{"nothing", false, func(c *impl.Cookie) {}},
	{"Name", true, func(c *impl.Cookie) { c.Name = "m" }},
	{"Name in capitals", true, func(c *impl.Cookie) { c.Name = "N" }},
	{"Host", true, func(c *impl.Cookie) { c.Host = "a.com" }},
	{"Alone", true, func(c *impl.Cookie) { c.Alone = true }},
	{"Path", true, func(c *impl.Cookie) { c.Path = "/p/" }},
	{"Part", true, func(c *impl.Cookie) { c.Part = "https://u.com" }},
	{"Part, none", true, func(c *impl.Cookie) { c.Part = "" }},
	{"Value", false, func(c *impl.Cookie) { c.Value = "w" }},
	{"Mode", false, func(c *impl.Cookie) { c.Mode = impl.MdNone }},
	{"Until", false, func(c *impl.Cookie) { c.Until = 0 }},
	{"Secure", false, func(c *impl.Cookie) { c.Secure = false }},
}

func TestJarsByPlace(t *testing.T) {
	plain := turned(aCookie, func(c *impl.Cookie) { c.Part = "" })
	other := turned(aCookie, func(c *impl.Cookie) { c.Name, c.Made = "other", aCookie.Made+1 })
	for _, turn := range placeTurns {
		first := aCookie
		if turn.what == "Secure" {
			// Of a Part it would not be right without it.
			first = plain
		}
		second := turned(first, turn.turn)
		second.Made = aCookie.Made + 2
		same(t, turn.what+": the second by itself", impl.CookieRight(second), true)
		same(t, turn.what, impl.JarRight([]impl.Cookie{first, second}), turn.place)
		same(t, turn.what+": apart", impl.JarRight([]impl.Cookie{first, other, second}), turn.place)
		full := manyCookies(impl.MaxJar)
		full[0] = turned(first, func(c *impl.Cookie) { c.Made = 1 })
		full[11] = turned(second, func(c *impl.Cookie) { c.Made = 12 })
		same(t, turn.what+": the first and the last one", impl.JarRight(full), turn.place)
	}
}

func TestJarsByMade(t *testing.T) {
	cases := []struct {
		made  []int64
		right bool
	}{
		{[]int64{0}, true}, {[]int64{impl.MaxTime}, true}, {[]int64{0, 1}, true}, {[]int64{0, impl.MaxTime}, true}, {[]int64{3, 9, 10}, true},
		{[]int64{0, 0}, false}, {[]int64{5, 5}, false}, {[]int64{6, 5}, false}, {[]int64{1, 2, 2}, false}, {[]int64{1, 3, 2}, false}, {[]int64{2, 1, 3}, false},
		{[]int64{2, 3, 1}, false}, {[]int64{impl.MaxTime, impl.MaxTime}, false}, {[]int64{impl.MaxTime, impl.MaxTime + 1}, false}, {[]int64{-1, 0}, false},
	}
	for _, c := range cases {
		l := manyCookies(len(c.made))
		for i, made := range c.made {
			l[i].Made = made
		}
		same(t, fmt.Sprint(c.made), impl.JarRight(l), c.right)
	}
}

// wrongJars: each has one thing that may not be.
func wrongJars() [][]impl.Cookie {
	var all [][]impl.Cookie
	for _, turn := range cookieTurns {
		if turn.right {
			continue
		}
		for at := range 3 {
			l := manyCookies(3)
			made := l[at].Made
			turn.turn(&l[at])
			l[at].Made = made
			all = append(all, l)
		}
	}
	same2 := manyCookies(2)
	same2[1].Name = same2[0].Name
	falling := manyCookies(3)
	falling[1].Made = 3
	falling[2].Made = 2
	return append(all, same2, falling, manyCookies(impl.MaxJar+1), manyCookies(impl.MaxList))
}

func TestJarsThatAreWrong(t *testing.T) {
	for _, l := range wrongJars() {
		same(t, shown(l), impl.JarRight(l), false)
		same(t, shown(l)+": by form", jarByForm(l), false)
	}
}

// Few of each, so that they often meet.
var (
	jarHosts = []string{"a.com", "a.com", "a.com", "a.com", "x.a.com", "x.a.com", "x.a.com", "y.x.a.com", "xa.com", "b.com", "com", "uk", "city.uk", "www.city.uk", "co.uk", "shop.co.uk", "www.shop.co.uk", "a.io.com"}
	jarPaths = []string{"/", "/", "/p", "/p/", "/p/q", "/pq", "/p/q/r"}
	jarParts = []string{"", "", "https://t.com", "https://u.com", longestPart}
)

func oneOf[T any](r *rand.Rand, l []T) T {
	return l[r.Intn(len(l))]
}

// someCookie draws one that is right but for, now and then, what is Secure.
func someCookie(r *rand.Rand) impl.Cookie {
	c := impl.Cookie{Name: oneOf(r, []string{"a", "b"}), Value: oneOf(r, []string{"", "1", "2"}), Host: oneOf(r, jarHosts), Alone: r.Intn(2) == 0, Path: oneOf(r, jarPaths),
		Secure: r.Intn(2) == 0, Mode: int64(r.Intn(3)), Part: oneOf(r, jarParts), Until: oneOf(r, []int64{0, 0, 5, 10, 15, impl.MaxTime})}
	if (c.Mode == impl.MdNone || c.Part != "") && r.Intn(50) > 0 {
		c.Secure = true
	}
	return c
}

// someJar draws one that is most often right.
func someJar(r *rand.Rand) []impl.Cookie {
	var l []impl.Cookie
	made := int64(r.Intn(3))
	for range r.Intn(impl.MaxJar + 2) {
		c := someCookie(r)
		c.Made = made
		made += int64(r.Intn(3) + 1)
		if r.Intn(100) == 0 {
			made -= 2
		}
		has := func(other impl.Cookie) bool { return placeByForm(other) == placeByForm(c) }
		if !slices.ContainsFunc(l, has) || r.Intn(100) == 0 {
			l = append(l, c)
		}
	}
	if len(l) > 0 && r.Intn(40) == 0 {
		l[len(l)-1].Made = impl.MaxTime
	}
	return l
}

func TestJarsDrawn(t *testing.T) {
	r := rand.New(rand.NewSource(6))
	right := 0
	for range 4000 {
		l := someJar(r)
		want := jarByForm(l)
		if got := impl.JarRight(l); got != want {
			t.Fatalf("%+v: got %v, want %v", l, got, want)
		}
		if want {
			right++
		}
	}
	if right < 2000 || right > 3900 {
		t.Errorf("%d of 4000 are right: this tells little", right)
	}
}
