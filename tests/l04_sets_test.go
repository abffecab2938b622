package tests

import (
	"regexp"
	"strconv"
	"strings"
	"testing"
	"unsafe"

	"loop.example/g00551/impl"
)

// Promise 7: what sets a cookie comes back from its text.

// sets: right ones, with their texts.
var sets = []struct {
	set  impl.SetCookie
	text string
}{
	{impl.SetCookie{Name: "a", Value: "b", Age: -1}, "a=b"},
	{impl.SetCookie{Name: "a", Age: -1}, "a="},
	{impl.SetCookie{Name: "a", Value: "b", Domain: "a.com", Age: -1}, "a=b; Domain=a.com"},
	{impl.SetCookie{Name: "a", Value: "b", Path: "/p", Age: -1}, "a=b; Path=/p"},
	{impl.SetCookie{Name: "a", Value: "b"}, "a=b; Max-Age=0"},
	{impl.SetCookie{Name: "a", Value: "b", Age: 5}, "a=b; Max-Age=5"},
	{impl.SetCookie{Name: "a", Value: "b", Age: 10}, "a=b; Max-Age=10"},
	{impl.SetCookie{Name: "a", Value: "b", Age: impl.MaxTime - 1}, "a=b; Max-Age=999999"},
	{impl.SetCookie{Name: "a", Value: "b", Age: impl.MaxTime}, "a=b; Max-Age=1000000"},
	{impl.SetCookie{Name: "a", Value: "b", Age: -1, Secure: true}, "a=b; Secure"},
	{impl.SetCookie{Name: "a", Value: "b", Age: -1, Mode: impl.MdLax}, "a=b"},
	{impl.SetCookie{Name: "a", Value: "b", Age: -1, Mode: impl.MdStrict}, "a=b; SameSite=Strict"},
	{impl.SetCookie{Name: "a", Value: "b", Age: -1, Mode: impl.MdNone}, "a=b; SameSite=None"},
	{impl.SetCookie{Name: "a", Value: "b", Age: -1, Parted: true}, "a=b; Partitioned"},
	{impl.SetCookie{Name: "a", Value: "b", Domain: "a.com", Path: "/p", Age: 5, Secure: true, Mode: impl.MdNone, Parted: true},
		"a=b; Domain=a.com; Path=/p; Max-Age=5; Secure; SameSite=None; Partitioned"},
	{impl.SetCookie{Name: "a", Domain: "a.com", Path: "/", Secure: true, Mode: impl.MdStrict, Parted: true},
		"a=; Domain=a.com; Path=/; Max-Age=0; Secure; SameSite=Strict; Partitioned"},
	{impl.SetCookie{Name: "Path", Value: "Path", Path: "/Path=/a=b,c", Age: -1}, "Path=Path; Path=/Path=/a=b,c"},
	{impl.SetCookie{Name: "Secure", Domain: "secure", Age: -1}, "Secure=; Domain=secure"},
	{impl.SetCookie{Name: "Max-Age", Value: "-1", Age: 1}, "Max-Age=-1; Max-Age=1"},
	{impl.SetCookie{Name: "SameSite", Value: "Lax", Age: -1}, "SameSite=Lax"},
	{impl.SetCookie{Name: ".", Value: "-_.", Age: -1}, ".=-_."},
	{impl.SetCookie{Name: longestWord, Value: longestWord, Domain: longestHost, Path: longestPath, Age: impl.MaxTime, Secure: true, Mode: impl.MdStrict, Parted: true},
		longestWord + "=" + longestWord + "; Domain=" + longestHost + "; Path=" + longestPath + "; Max-Age=1000000; Secure; SameSite=Strict; Partitioned"},
}

// wrongSets: each has one thing that may not be.
var wrongSets = []impl.SetCookie{
	{},
	{Age: -1},
	{Value: "b", Age: -1},
	{Value: "b", Domain: "a.com", Path: "/p", Age: 5, Secure: true, Mode: impl.MdNone, Parted: true},
	{Name: "a", Value: "b", Domain: "a..com", Age: -1},
	{Name: "a", Value: "b", Domain: ".a.com", Age: -1},
	{Name: "a", Value: "b", Domain: "A.com", Age: -1},
	{Name: "a", Value: "b", Domain: " ", Age: -1},
	{Name: "a", Value: "b", Domain: "*.com", Age: -1},
	{Name: "a", Value: "b", Domain: "1.2.3.4.5.6.7", Age: -1},
	{Name: "a", Value: "b", Domain: tooLong, Age: -1},
	{Name: "a", Value: "b", Path: "p", Age: -1},
	{Name: "a", Value: "b", Path: "p/", Age: -1},
	{Name: "a", Value: "b", Path: " /", Age: -1},
	{Name: "a", Value: "b", Path: "/a b", Age: -1},
	{Name: "a", Value: "b", Path: "/?", Age: -1},
	{Name: "a", Value: "b", Path: "/#", Age: -1},
	{Name: "a", Value: "b", Path: "/;", Age: -1},
	{Name: "a", Value: "b", Path: "/; Secure", Age: -1},
	{Name: "a", Value: "b", Path: "/é", Age: -1},
	{Name: "a", Value: "b", Path: longestPath + "z", Age: -1},
	{Name: "a", Value: "b", Path: "/" + tooLong, Age: -1},
	{Name: "a", Value: "b", Age: -2},
	{Name: "a", Value: "b", Age: -1 << 63},
	{Name: "a", Value: "b", Age: impl.MaxTime + 1},
	{Name: "a", Value: "b", Age: 1<<32 + 5},
	{Name: "a", Value: "b", Age: 1<<63 - 1},
	{Name: "a", Value: "b", Age: -1, Mode: -1},
	{Name: "a", Value: "b", Age: -1, Mode: 3},
	{Name: "a", Value: "b", Age: -1, Mode: 1 << 32},
	{Name: "a", Value: "b", Age: -1, Mode: 1<<63 - 1},
	{Name: "a", Value: "b", Age: -1, Mode: -1 << 63},
}

func TestSetConstants(t *testing.T) {
	same(t, "modes", [3]int{impl.MdLax, impl.MdStrict, impl.MdNone}, [3]int{0, 1, 2})
	same(t, "kinds", [3]int{impl.ClCache, impl.ClCookies, impl.ClStorage}, [3]int{1, 2, 4})
}

func TestSetsThatAreRight(t *testing.T) {
	for _, c := range sets {
		same(t, c.text, impl.SetRight(c.set), true)
		same(t, "text", impl.SetText(c.set), c.text)
	}
}

func TestSetsThatAreWrong(t *testing.T) {
	for _, c := range wrongSets {
		same(t, shown(c), impl.SetRight(c), false)
		same(t, "text of "+shown(c), impl.SetText(c), "")
	}
}

func TestSetsComeBack(t *testing.T) {
	for _, c := range sets {
		same(t, c.text, impl.SetRead(c.text), impl.SetOut{Set: c.set})
	}
}

// allSets: each attribute there or not, by all others.
func allSets() []impl.SetCookie {
	var l []impl.SetCookie
	for bits := range 32 {
		for _, age := range []int64{-1, 0, 1, impl.MaxTime} {
			for mode := range int64(3) {
				c := impl.SetCookie{Name: "n", Age: age, Secure: bits&1 != 0, Mode: mode, Parted: bits&2 != 0}
				if bits&4 != 0 {
					c.Value = "v"
				}
				if bits&8 != 0 {
					c.Domain = "x.a.com"
				}
				if bits&16 != 0 {
					c.Path = "/p/q"
				}
				l = append(l, c)
			}
		}
	}
	return l
}

func TestAllSetsComeBack(t *testing.T) {
	seen := map[string]int{}
	for _, c := range allSets() {
		text := impl.SetText(c)
		same(t, shown(c), impl.SetRight(c), true)
		same(t, text, setByForm(text), impl.SetOut{Set: c})
		same(t, text, impl.SetRead(text), impl.SetOut{Set: c})
		seen[text]++
		same(t, "no two of one text: "+text, seen[text], 1)
	}
}

func TestSetsByTheirWords(t *testing.T) {
	check := func(c impl.SetCookie, right bool) {
		t.Helper()
		text := c.Name + "=" + c.Value
		same(t, shown(text), impl.SetRight(c), right)
		if right {
			same(t, text, impl.SetText(c), text)
			same(t, text, impl.SetRead(text), impl.SetOut{Set: c})
		} else {
			same(t, shown(text), impl.SetText(c), "")
		}
	}
	for _, word := range rightWords {
		check(impl.SetCookie{Name: word, Value: "v", Age: -1}, word != "")
		check(impl.SetCookie{Name: "n", Value: word, Age: -1}, true)
	}
	for _, word := range wrongWords {
		check(impl.SetCookie{Name: word, Value: "v", Age: -1}, false)
		check(impl.SetCookie{Name: "n", Value: word, Age: -1}, false)
	}
}

func TestSetsByTheirDomain(t *testing.T) {
	for _, h := range hosts {
		c := impl.SetCookie{Name: "a", Domain: h.host, Age: -1}
		same(t, h.host, impl.SetRight(c), true)
		same(t, h.host, impl.SetRead("a=; Domain="+h.host), impl.SetOut{Set: c})
	}
	for _, host := range wrongHosts {
		// Without a host at all it is right, but the text that writes that out is not.
		same(t, shown(host), impl.SetRight(impl.SetCookie{Name: "a", Domain: host, Age: -1}), host == "")
		if text := "a=; Domain=" + host; len(text) <= impl.MaxBytes {
			same(t, shown(text), impl.SetRead(text), impl.SetOut{Code: impl.ErrSyntax})
		}
	}
}

func TestSetsByTheirPath(t *testing.T) {
	check := func(path string) {
		t.Helper()
		right := impl.UrlRight(impl.Url{Scheme: "http", Host: "a", Port: 80, Path: path})
		c := impl.SetCookie{Name: "a", Path: path, Age: -1}
		out := impl.SetOut{Set: c}
		if !right {
			out = impl.SetOut{Code: impl.ErrSyntax}
		}
		same(t, "path "+path, impl.SetRight(c), right || path == "")
		same(t, "path "+path, impl.SetRead("a=; Path="+path), out)
	}
	for i := range 256 {
		b := string([]byte{byte(i)})
		for _, path := range []string{b, "/" + b, "/a" + b + "z", longestPath[:39] + b} {
			check(path)
		}
	}
	for size := range 60 {
		check(strings.Repeat("/", size))
	}
}

func TestSetsByTheirAge(t *testing.T) {
	ages := []int64{-1 << 63, -1 << 32, -1000000, -3, -2, -1, 0, 1, 9, 10, 11, 99, 100, 4095, 65536, 999999, 1000000, 1000001, 1000002, 1 << 32, 1<<63 - 1}
	for _, age := range ages {
		c := impl.SetCookie{Name: "a", Age: age}
		right := age >= 0 && age <= 1000000
		same(t, shown(age), impl.SetRight(c), right || age == -1)
		text := "a=; Max-Age=" + strconv.FormatInt(age, 10)
		out := impl.SetOut{Set: c}
		if !right {
			out = impl.SetOut{Code: impl.ErrSyntax}
		}
		same(t, text, impl.SetRead(text), out)
	}
}

var wrongSetTexts = []string{
	"", "=", "=b", "a", "ab", "b; a=b", ";", "; ", "; a=b", " a=b", "a=b ", "a =b", "a= b", "a==b", "a=b=c", "a=b=", "a=b\n", "\na=b",
	// Another order, and twice.
	"a=b; Path=/; Domain=a.com", "a=b; Max-Age=5; Path=/", "a=b; Max-Age=5; Domain=a.com", "a=b; Secure; Max-Age=5",
	"a=b; SameSite=None; Secure", "a=b; Partitioned; SameSite=None", "a=b; Partitioned; Secure", "a=b; Partitioned; Path=/", "a=b; Secure; Domain=a.com",
	"Domain=a.com; a=b; Path=p", "Secure; a=b",
	"a=b; Domain=a.com; Domain=a.com", "a=b; Domain=a.com; Domain=b.com", "a=b; Path=/; Path=/", "a=b; Path=/p; Path=/q",
	"a=b; Max-Age=5; Max-Age=5", "a=b; Max-Age=5; Max-Age=6", "a=b; Secure; Secure", "a=b; Partitioned; Partitioned",
	"a=b; SameSite=None; SameSite=None", "a=b; SameSite=Strict; SameSite=Strict", "a=b; SameSite=Strict; SameSite=None", "a=b; SameSite=None; SameSite=Strict",
	"a=b; c=d", "a=b; a=b", "a=b; Secure; c=d",
	// Another case.
	"a=b; domain=a.com", "a=b; DOMAIN=a.com", "a=b; Domain=A.com", "a=b; path=/", "a=b; PATH=/", "a=b; max-age=5", "a=b; Max-age=5", "a=b; MAX-AGE=5",
	"a=b; secure", "a=b; SECURE", "a=b; samesite=Strict", "a=b; SameSite=strict", "a=b; SameSite=NONE", "a=b; Samesite=None", "a=b; partitioned",
	// More or fewer blanks.
	"a=b;Secure", "a=b;  Secure", "a=b ; Secure", "a=b; Secure ", "a=b;\tSecure", "a=b; Secure;Partitioned", "a=b; Secure;  Partitioned", "a=b, Secure",
	"a=b; Domain =a.com", "a=b; Domain= a.com", "a=b; Path= /", "a=b; Path=/ ", "a=b; Max-Age= 5", "a=b; Max-Age=5 ", "a=b; SameSite= None", "a=b; Max-Age =5",
	"a=b;", "a=b; ", "a=b;  ", "a=b; ; Secure", "a=b; Secure; ", "a=b; Secure;", "a=b; Partitioned; ", "a=b; Path=/; ", "a=; ",
	// Nothing behind `=`, no `=`, or one that should not be.
	"a=b; Domain=", "a=b; Path=", "a=b; Max-Age=", "a=b; SameSite=", "a=b; Domain=; Path=/", "a=b; Path=; Secure", "a=b; Max-Age=; Secure",
	"a=b; Domain", "a=b; Path", "a=b; Max-Age", "a=b; SameSite", "a=b; Secure=", "a=b; Secure=true", "a=b; Secure=1", "a=b; Partitioned=", "a=b; Partitioned=1",
	"a=b; =", "a=b; =/", "a=b; =a.com",
	// Numbers.
	"a=b; Max-Age=00", "a=b; Max-Age=05", "a=b; Max-Age=0005", "a=b; Max-Age=01000000", "a=b; Max-Age=+5", "a=b; Max-Age=+0", "a=b; Max-Age=-0", "a=b; Max-Age=-1",
	"a=b; Max-Age=-2", "a=b; Max-Age=-5", "a=b; Max-Age=1000001", "a=b; Max-Age=10000000", "a=b; Max-Age=4294967301", "a=b; Max-Age=18446744073709551621",
	"a=b; Max-Age=18446744073709551615", "a=b; Max-Age=9223372036854775807", "a=b; Max-Age=9223372036854775808", "a=b; Max-Age=-9223372036854775809",
	"a=b; Max-Age=" + strings.Repeat("0", 300) + "5", "a=b; Max-Age=" + strings.Repeat("9", 300),
	"a=b; Max-Age=x", "a=b; Max-Age=5x", "a=b; Max-Age=0x5", "a=b; Max-Age=5.0", "a=b; Max-Age=5e0", "a=b; Max-Age=1_0", "a=b; Max-Age=٥", "a=b; Max-Age=５", "a=b; Max-Age=5,",
	// Modes, and what is none of these.
	"a=b; SameSite=Lax", "a=b; SameSite=None Strict", "a=b; SameSite=NoneStrict", "a=b; SameSite=0", "a=b; SameSite=2", "a=b; SameSite=Lax; SameSite=None",
	"a=b; HttpOnly", "a=b; Expires=5", "a=b; Securex", "a=b; xSecure", "a=b; Partitione", "a=b; Max-Age5", "a=b; Priority=High; Secure", "a=b; Secure; HttpOnly",
	// Fields that are not right.
	"a=b; Domain=.a.com", "a=b; Domain=a.com.", "a=b; Domain=a_b", "a=b; Domain=*.com", "a=b; Domain=1.2.3.4.5.6.7", "a=b; Domain=a.com:80", "a=b; Domain=a.com=",
	"a=b; Path=p", "a=b; Path=p/", "a=b; Path=/a b", "a=b; Path=/a?b", "a=b; Path=/a#b", "a=b; Path=/;b", "a=b; Path=/; b", "a=b; Path=" + longestPath + "z", "a=b; Path=/é",
	"a b=c", "a,b=c", "\"a\"=b", "a=\"b\"", "a=b,c", "é=b", "a=é", "a=b\x00", "a\x80=b", "a/b=c", "a=b/c",
	longestWord + "z=b", "a=" + longestWord + "z",
	"Set-Cookie: a=b", "a=b\r\n", "a=b; Secure\n", "a=b\n; Secure", "a=b; Secure\x00",
}

func TestSetTextsThatAreWrong(t *testing.T) {
	for _, text := range wrongSetTexts {
		same(t, shown(text), impl.SetRead(text), impl.SetOut{Code: impl.ErrSyntax})
	}
}

func TestSetTextsBySize(t *testing.T) {
	for _, head := range []string{"", "a=b; Path=/", "a=b; Secure; ", "a=b; Max-Age=", "="} {
		long := head + tooLong
		same(t, head+": MaxBytes bytes", impl.SetRead(long[:impl.MaxBytes]), impl.SetOut{Code: impl.ErrSyntax})
		same(t, head+": one more", impl.SetRead(long[:impl.MaxBytes+1]), impl.SetOut{Code: impl.ErrSize})
		same(t, head+": all", impl.SetRead(long), impl.SetOut{Code: impl.ErrSize})
	}
	for _, part := range []string{"; ", "; Secure", "; SameSite=None", "; Path=/", "; Max-Age=5", "="} {
		long := "a=b" + strings.Repeat(part, impl.MaxBytes)
		same(t, part+" again and again", impl.SetRead(long[:impl.MaxBytes]), impl.SetOut{Code: impl.ErrSyntax})
		same(t, part+" once more", impl.SetRead(long[:impl.MaxBytes+1]), impl.SetOut{Code: impl.ErrSize})
	}
}

// setForm is what the document says of a text, in one piece; that the age is no
// greater than it may be is asked beside it.
var setForm = regexp.MustCompile(`^([a-zA-Z0-9_.-]{1,20})=([a-zA-Z0-9_.-]{0,20})` +
	`(?:; Domain=((?:[a-z0-9](?:[a-z0-9-]{0,10}[a-z0-9])?\.){0,5}[a-z0-9](?:[a-z0-9-]{0,10}[a-z0-9])?))?` +
	`(?:; Path=(/[!"$-:<->@-~]{0,39}))?(?:; Max-Age=(0|[1-9][0-9]{0,6}))?(; Secure)?(?:; SameSite=(Strict|None))?(; Partitioned)?$`)

func setByForm(text string) impl.SetOut {
	m := setForm.FindStringSubmatch(text)
	if m == nil {
		return impl.SetOut{Code: impl.ErrSyntax}
	}
	c := impl.SetCookie{Name: m[1], Value: m[2], Domain: m[3], Path: m[4], Age: -1, Secure: m[6] != "", Parted: m[8] != ""}
	if m[5] != "" {
		age, err := strconv.ParseInt(m[5], 10, 64)
		if err != nil || age > 1000000 {
			return impl.SetOut{Code: impl.ErrSyntax}
		}
		c.Age = age
	}
	switch m[7] {
	case "Strict":
		c.Mode = 1
	case "None":
		c.Mode = 2
	}
	return impl.SetOut{Set: c}
}

func TestSetTextsWithOneByteTurned(t *testing.T) {
	for _, c := range sets {
		for at := range len(c.text) + 1 {
			short := c.text[:at]
			same(t, short, impl.SetRead(short), setByForm(short))
			for i := range 256 {
				b := string([]byte{byte(i)})
				put := c.text[:at] + b + c.text[at:]
				same(t, put, impl.SetRead(put), setByForm(put))
				if at < len(c.text) {
					turned := c.text[:at] + b + c.text[at+1:]
					same(t, turned, impl.SetRead(turned), setByForm(turned))
				}
			}
			if at < len(c.text) {
				without := c.text[:at] + c.text[at+1:]
				same(t, without, impl.SetRead(without), setByForm(without))
			}
		}
	}
}

// TestSetTextsByTheirParts: up to three attributes, in all orders, with twins.
func TestSetTextsByTheirParts(t *testing.T) {
	parts := []string{"", "; ", "; Domain=a.com", "; Domain=", "; Path=/p", "; Path=/", "; Max-Age=0", "; Max-Age=7", "; Max-Age=-1", "; Secure", ";Secure",
		"; SameSite=Strict", "; SameSite=None", "; SameSite=Lax", "; Partitioned", "; Other"}
	for _, a := range parts {
		for _, b := range parts {
			for _, c := range parts {
				text := "n=v" + a + b + c
				same(t, text, impl.SetRead(text), setByForm(text))
			}
		}
	}
}

func TestSetsAreNewMemory(t *testing.T) {
	const text = "ab=cd; Domain=a.com; Path=/p; Max-Age=5; Secure; SameSite=None; Partitioned"
	want := impl.SetCookie{Name: "ab", Value: "cd", Domain: "a.com", Path: "/p", Age: 5, Secure: true, Mode: impl.MdNone, Parted: true}
	b := []byte(text)
	got := impl.SetRead(unsafe.String(&b[0], len(b)))
	same(t, "what was handed in", string(b), text)
	clear(b)
	same(t, "what was read, behind the call", got, impl.SetOut{Set: want})

	fields := []byte("abcda.com/p")
	c := want
	c.Name, c.Value = unsafe.String(&fields[0], 2), unsafe.String(&fields[2], 2)
	c.Domain, c.Path = unsafe.String(&fields[4], 5), unsafe.String(&fields[9], 2)
	bare := impl.SetCookie{Name: c.Name, Age: -1}
	written, short := impl.SetText(c), impl.SetText(bare)
	same(t, "is it right", impl.SetRight(c), true)
	same(t, "what was handed in", string(fields), "abcda.com/p")
	clear(fields)
	same(t, "what was written, behind the call", written, text)
	same(t, "a bare one, behind the call", short, "ab=")
}
