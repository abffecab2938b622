package tests

import (
	"cmp"
	"fmt"
	"math/rand"
	"slices"
	"testing"

	"loop.example/g00551/impl"
)

// Promise 11: whatever goes with what is asked for fits its host and its path,
// is not old, and lies in the part, or in none, where all is of one house or it
// is wide.

// sameFor: an empty list and none are the same.
func sameFor(t *testing.T, what string, got []impl.Pair, want []impl.Pair) {
	t.Helper()
	if !slices.Equal(got, want) {
		t.Errorf("%s: got %+v, want %+v", what, got, want)
	}
}

func pairOf(c impl.Cookie) impl.Pair {
	return impl.Pair{Name: c.Name, Value: c.Value}
}

// nearCookie goes, near, with all that is asked for at a.com.
var nearCookie = impl.Cookie{Name: "n", Value: "v", Host: "a.com", Path: "/", Made: 1}

func TestForOneCookie(t *testing.T) {
	cases := []struct {
		what string
		turn func(c *impl.Cookie)
		url  string
		goes bool
	}{
		{"as it is", func(c *impl.Cookie) {}, "http://a.com/", true},
		{"at another port", func(c *impl.Cookie) {}, "http://a.com:8080/", true},
		{"a label ahead", func(c *impl.Cookie) {}, "http://x.a.com/", true},
		{"two labels ahead", func(c *impl.Cookie) {}, "http://y.x.a.com/", true},
		{"the same letters", func(c *impl.Cookie) {}, "http://xa.com/", false},
		{"another host", func(c *impl.Cookie) {}, "http://b.com/", false},
		{"the other way round", func(c *impl.Cookie) { c.Host = "x.a.com" }, "http://a.com/", false},
		{"Alone", func(c *impl.Cookie) { c.Alone = true }, "http://a.com/", true},
		{"Alone, a label ahead", func(c *impl.Cookie) { c.Alone = true }, "http://x.a.com/", false},
		{"Alone, the other way round", func(c *impl.Cookie) { c.Host, c.Alone = "x.a.com", true }, "http://a.com/", false},
		{"the whole path", func(c *impl.Cookie) {}, "http://a.com/p/q", true},
		{"the same path", func(c *impl.Cookie) { c.Path = "/p" }, "http://a.com/p", true},
		{"a path within", func(c *impl.Cookie) { c.Path = "/p" }, "http://a.com/p/q", true},
		{"a path with a slash", func(c *impl.Cookie) { c.Path = "/p/" }, "http://a.com/p/q", true},
		{"a path without its slash", func(c *impl.Cookie) { c.Path = "/p/" }, "http://a.com/p", false},
		{"a path of the same letters", func(c *impl.Cookie) { c.Path = "/p" }, "http://a.com/pq", false},
		{"a longer path", func(c *impl.Cookie) { c.Path = "/p/q" }, "http://a.com/p", false},
		{"another path", func(c *impl.Cookie) { c.Path = "/q" }, "http://a.com/p", false},
		{"not Secure by https", func(c *impl.Cookie) {}, "https://a.com/", true},
		{"Secure by https", func(c *impl.Cookie) { c.Secure = true }, "https://a.com/", true},
		{"Secure by https at the port of http", func(c *impl.Cookie) { c.Secure = true }, "https://a.com:80/", true},
		{"Secure by http", func(c *impl.Cookie) { c.Secure = true }, "http://a.com/", false},
		{"Secure by http at the port of https", func(c *impl.Cookie) { c.Secure = true }, "http://a.com:443/", false},
		{"no value", func(c *impl.Cookie) { c.Value = "" }, "http://a.com/", true},
		{"of a host that is a suffix", func(c *impl.Cookie) { c.Host = "com" }, "http://a.com/", true},
	}
	for _, c := range cases {
		cookie := turned(nearCookie, c.turn)
		var want []impl.Pair
		if c.goes {
			want = []impl.Pair{pairOf(cookie)}
		}
		sameFor(t, c.what, impl.JarFor([]impl.Cookie{cookie}, urlOf(t, c.url), "https://t.com", false, true, 10), want)
	}
}

func TestForByTime(t *testing.T) {
	u := urlOf(t, "http://a.com/")
	cases := []struct {
		until int64
		now   int64
		goes  bool
	}{
		{0, 0, true}, {0, 1, true}, {0, impl.MaxTime, true},
		{1, 0, true}, {1, 1, false}, {1, 2, false},
		{10, 9, true}, {10, 10, false}, {10, 11, false}, {10, impl.MaxTime, false},
		{impl.MaxTime, 0, true}, {impl.MaxTime, impl.MaxTime - 1, true}, {impl.MaxTime, impl.MaxTime, false},
	}
	for _, c := range cases {
		l := []impl.Cookie{turned(nearCookie, func(cookie *impl.Cookie) { cookie.Until = c.until })}
		got := impl.JarFor(l, u, "", false, true, c.now)
		same(t, fmt.Sprint("until ", c.until, " at ", c.now), len(got) == 1, c.goes)
		same(t, fmt.Sprint("until ", c.until, " at ", c.now, ", old"), len(impl.JarOld(l, c.now)) == 1, c.goes)
	}
}

// Of each Part, Mode, part, near and wide.
func TestForByPart(t *testing.T) {
	u := urlOf(t, "https://a.com/")
	parts := []string{"", "https://t.com", "https://u.com", "https://t.co", longestPart}
	for _, own := range parts {
		for mode := range int64(3) {
			l := []impl.Cookie{turned(nearCookie, func(c *impl.Cookie) { c.Secure, c.Mode, c.Part = true, mode, own })}
			for _, part := range parts {
				for bits := range 4 {
					near, wide := bits&1 != 0, bits&2 != 0
					goes := own != "" && own == part
					if own == "" {
						goes = near || wide && mode == impl.MdNone
					}
					var want []impl.Pair
					if goes {
						want = []impl.Pair{pairOf(nearCookie)}
					}
					what := fmt.Sprintf("of %q in %q, mode %d, near %v, wide %v", own, part, mode, near, wide)
					sameFor(t, what, impl.JarFor(l, u, part, wide, near, 10), want)
				}
			}
		}
	}
}

func TestForInOrder(t *testing.T) {
	u := urlOf(t, "https://a.com/p/q/r")
	paths := []string{"/", "/p", "/p/", "/p/q", "/p/q/", "/p/q/r"}
	for seed := range int64(40) {
		r := rand.New(rand.NewSource(seed))
		var l []impl.Cookie
		for i := range impl.MaxJar {
			l = append(l, turned(nearCookie, func(c *impl.Cookie) {
				c.Name, c.Path, c.Made = fmt.Sprint("n", (i*7)%12), oneOf(r, paths), int64(i*i)
			}))
		}
		var want []impl.Pair
		for size := 10; size > 0; size-- {
			for _, c := range l {
				if len(c.Path) == size {
					want = append(want, pairOf(c))
				}
			}
		}
		same(t, "all of them", len(want), impl.MaxJar)
		sameFor(t, "drawn", impl.JarFor(l, u, "", false, true, 0), want)
	}
	two := func(first string, second string) []impl.Pair {
		a := turned(nearCookie, func(c *impl.Cookie) { c.Name, c.Path = "a", first })
		b := turned(nearCookie, func(c *impl.Cookie) { c.Name, c.Path, c.Made = "b", second, 2 })
		return impl.JarFor([]impl.Cookie{a, b}, u, "", false, true, 0)
	}
	aFirst := []impl.Pair{{Name: "a", Value: "v"}, {Name: "b", Value: "v"}}
	bFirst := []impl.Pair{{Name: "b", Value: "v"}, {Name: "a", Value: "v"}}
	sameFor(t, "the longer one ahead", two("/p/q", "/p"), aFirst)
	sameFor(t, "the longer one behind", two("/p", "/p/q"), bFirst)
	sameFor(t, "longer by a slash", two("/p", "/p/"), bFirst)
	sameFor(t, "of one length", two("/p", "/p"), aFirst)
}

// Parts, hosts and what is of one name beside each other.
func TestForMoreThanOne(t *testing.T) {
	l := []impl.Cookie{
		{Name: "n", Value: "host", Host: "x.a.com", Alone: true, Path: "/", Made: 1},
		{Name: "n", Value: "domain", Host: "a.com", Path: "/", Secure: true, Mode: impl.MdNone, Made: 2},
		{Name: "n", Value: "part", Host: "a.com", Path: "/p", Secure: true, Part: "https://t.com", Made: 3},
		{Name: "n", Value: "other", Host: "a.com", Path: "/p", Secure: true, Part: "https://u.com", Made: 4},
		{Name: "n", Value: "old", Host: "a.com", Path: "/p", Until: 10, Made: 5},
	}
	u := urlOf(t, "https://x.a.com/p")
	cases := []struct {
		part string
		wide bool
		near bool
		now  int64
		want string
	}{
		{"https://t.com", false, false, 10, "n=part"},
		{"https://t.com", true, false, 10, "n=part; n=domain"},
		{"https://t.com", false, true, 10, "n=part; n=host; n=domain"},
		{"https://t.com", true, true, 10, "n=part; n=host; n=domain"},
		{"https://t.com", false, true, 9, "n=part; n=old; n=host; n=domain"},
		{"https://u.com", false, false, 10, "n=other"},
		{"https://v.com", true, false, 10, "n=domain"},
		{"", false, false, 10, ""},
		{"", true, false, 10, "n=domain"},
		{"", false, true, 10, "n=host; n=domain"},
	}
	for _, c := range cases {
		same(t, fmt.Sprintf("%+v", c), impl.PairsText(impl.JarFor(l, u, c.part, c.wide, c.near, c.now)), c.want)
	}
}

func TestForWhatIsWrong(t *testing.T) {
	u := urlOf(t, "http://a.com/")
	right := []impl.Cookie{nearCookie}
	sameFor(t, "right", impl.JarFor(right, u, "", true, true, 10), []impl.Pair{pairOf(nearCookie)})
	sameFor(t, "none", impl.JarFor(nil, u, "", true, true, 10), nil)
	for _, l := range wrongJars() {
		at := urlOf(t, "https://x.a.com/p")
		sameFor(t, shown(l), impl.JarFor(l, at, "https://t.com", true, true, 10), nil)
	}
	sameFor(t, "a list too long", impl.JarFor(manyCookies(impl.MaxList+1), urlOf(t, "https://x.a.com/p"), "https://t.com", true, true, 10), nil)
	for _, wrong := range wrongUrls {
		sameFor(t, shown(wrong), impl.JarFor(right, wrong, "", true, true, 10), nil)
	}
	for _, now := range wrongTimes {
		sameFor(t, fmt.Sprint(now), impl.JarFor(right, u, "", true, true, now), nil)
	}
	sameFor(t, "a part of 120 bytes", impl.JarFor(right, u, longestPart, true, true, 10), []impl.Pair{pairOf(nearCookie)})
	for _, part := range []string{longestPart + "x", tooLong[:impl.MaxBytes], tooLong} {
		sameFor(t, fmt.Sprint(len(part), " bytes"), impl.JarFor(right, u, part, true, true, 10), nil)
	}
}

// goesByForm: one sentence of the document after the other.
func goesByForm(c impl.Cookie, u impl.Url, part string, wide bool, near bool, now int64) bool {
	if !hostFitsByForm(u.Host, c.Host) || c.Alone && c.Host != u.Host || !pathFitsByForm(u.Path, c.Path) {
		return false
	}
	if c.Secure && u.Scheme == "http" || c.Until >= 1 && c.Until <= now {
		return false
	}
	switch c.Part {
	case "":
		return near || wide && c.Mode == 2
	case part:
		return true
	}
	return false
}

func forByForm(l []impl.Cookie, u impl.Url, part string, wide bool, near bool, now int64) []impl.Pair {
	if !jarByForm(l) || !impl.UrlRight(u) || len(part) > 120 || !timeByForm(now) {
		return nil
	}
	going := slices.DeleteFunc(slices.Clone(l), func(c impl.Cookie) bool { return !goesByForm(c, u, part, wide, near, now) })
	slices.SortStableFunc(going, func(a impl.Cookie, b impl.Cookie) int { return cmp.Compare(len(b.Path), len(a.Path)) })
	var pairs []impl.Pair
	for _, c := range going {
		pairs = append(pairs, pairOf(c))
	}
	return pairs
}

func TestForDrawn(t *testing.T) {
	r := rand.New(rand.NewSource(12))
	counts := map[int]int{}
	for range 20000 {
		l, u, part, wide, near, now := someJar(r), someUrl(r), oneOf(r, jarParts), r.Intn(2) == 0, r.Intn(2) == 0, someTime(r)
		if r.Intn(2) == 0 {
			// Most go here.
			u.Host, u.Path = "x.a.com", "/p/q/r"
		}
		got, want := impl.JarFor(l, u, part, wide, near, now), forByForm(l, u, part, wide, near, now)
		counts[min(len(got), 3)]++
		if !slices.Equal(got, want) {
			t.Fatalf("%+v, %+v, %q, %v, %v, %d: got %+v, want %+v", l, u, part, wide, near, now, got, want)
		}
	}
	for count := range 4 {
		if counts[count] < 100 {
			t.Errorf("%d times are %d told: this tells little", counts[count], count)
		}
	}
}

func TestForIsNewMemory(t *testing.T) {
	var b inBytes
	l := []impl.Cookie{
		nearCookie,
		{Name: "long", Value: "path", Host: "a.com", Path: "/p", Secure: true, Part: "https://t.com", Made: 2},
		{Name: "last", Value: "one", Host: "x.a.com", Path: "/", Made: 3},
	}
	held := b.jar(l)
	u := urlOf(t, "https://x.a.com/p")
	u.Scheme, u.Host, u.Path = b.text(u.Scheme), b.text(u.Host), b.text(u.Path)
	got := impl.JarFor(held, u, b.text("https://t.com"), false, true, 10)
	sameBehind(t, held, l)
	same(t, "the url", impl.UrlText(u), "https://x.a.com/p")
	b.turn()
	clear(held)
	sameFor(t, "behind the call", got, []impl.Pair{{Name: "long", Value: "path"}, {Name: "n", Value: "v"}, {Name: "last", Value: "one"}})
}
