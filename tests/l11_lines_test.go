package tests

import (
	"fmt"
	"slices"
	"strings"
	"testing"

	"loop.example/g00551/impl"
)

// What each line of the table tells, and that it does what it tells.

// deskHouse: frames 1 to 8 of a desk.
var deskHouse = []string{
	"open 0 https://a.com/",
	"open 1 https://b.com/",    // 2: a stranger, related to the top
	"open 1 https://c.com/",    // 3: a stranger that is not
	"box 1 https://b.com/",     // 4: a Sandbox
	"open 1 http://b.com/",     // 5: a stranger by http
	"open 1 https://x.a.com/p", // 6: of the top's site
	"open 0 https://c.com/",    // 7: another house
	"open 7 https://b.com/",    // 8: a stranger there
}

// toldBehind: what the last lines tell, behind those ahead in that house.
func toldBehind(t *testing.T, ahead []string, lines ...string) []string {
	t.Helper()
	begin := slices.Concat(deskHouse, ahead)
	out := impl.DeskRun(deskText(slices.Concat(begin, lines)...))
	told := strings.Split(strings.TrimSuffix(out.Text, "\n"), "\n")
	if out.Code != impl.OK || len(told) != len(begin)+len(lines) {
		t.Fatalf("%q, %q: told %+v", ahead, lines, out)
	}
	return told[len(begin):]
}

// deskCase: what a line tells, behind others.
type deskCase struct {
	ahead []string
	line  string
	told  string
}

func toldEach(t *testing.T, cases []deskCase) {
	t.Helper()
	for _, c := range cases {
		same(t, fmt.Sprintf("%q, %s", c.ahead, shown(c.line)), toldBehind(t, c.ahead, c.line)[0], c.told)
	}
}

func TestDeskOpens(t *testing.T) {
	full := []string{"open 8 https://a.com/", "open 9 https://a.com/"}
	toldEach(t, []deskCase{
		{nil, "open 0 https://a.com/", "frame 9"},
		{nil, "open 1 https://shop.co.uk:8443/p", "frame 9"},
		{nil, "open 4 http://a.com/", "frame 9"},
		{nil, "box 1 https://a.com/", "frame 9"},
		{nil, "box 8 http://a.com/", "frame 9"},
		{full[:1], "open 9 https://a.com/", "frame 10"},
		{full[:1], "box 9 https://a.com/", "frame 10"},
		{[]string{"go 7 https://c.com/"}, "open 0 https://a.com/", "frame 8"},
		{nil, "open 9 https://a.com/", "error 6"},
		{nil, "box 9 https://a.com/", "error 6"},
		{nil, "open 999999999 https://a.com/", "error 6"},
		{nil, "box 0 https://a.com/", "error 1"},
		{nil, "open 1 a.com", "error 3"},
		{nil, "box 1 https://a.com:443/", "error 3"},
		{nil, "open 0 https://a.com", "error 3"},
		{nil, "box 0 a.com", "error 3"},
		{nil, "open 9 a.com", "error 6"},
		{full, "open 0 https://a.com/", "error 9"},
		{full, "open 10 https://a.com/", "error 9"},
		{full, "box 1 https://a.com/", "error 9"},
		{full, "box 0 https://a.com/", "error 1"},
		{full, "open 11 https://a.com/", "error 6"},
		{full, "open 1 a.com", "error 3"},
	})
	// The frame is there, at that url, in that frame, a Sandbox just of box.
	for line, key := range map[string]string{
		"open 0 https://d.com/p":    "https://d.com^https://d.com",
		"open 1 https://d.com/p":    "https://d.com^https://a.com!",
		"open 7 http://d.com:1/":    "http://d.com:1^https://c.com!",
		"open 6 https://y.a.com/":   "https://y.a.com^https://a.com",
		"box 1 https://d.com/":      "null#9^https://a.com!",
		"box 6 https://a.com/":      "null#9^https://a.com",
		"open 4 https://b.com/":     "https://b.com^https://a.com!",
		"open 0 https://x.city.uk/": "https://x.city.uk^https://city.uk",
		"open 0 https://x.uk/":      "https://x.uk^https://x.uk",
	} {
		same(t, line, strings.Join(toldBehind(t, nil, line, "key 9", "key 10"), " "), "frame 9 "+key+" -")
	}
	same(t, "in nothing but the desk's world", impl.DeskRun("open 1 https://a.com/\nbox 0 https://a.com/\nopen 0 https://a.com/\n").Text, "error 6\nerror 1\nframe 1\n")
}

func TestDeskGoes(t *testing.T) {
	toldEach(t, []deskCase{
		{nil, "go 1 https://c.com/", "ok"},
		{nil, "go 8 http://d.com:8080/p", "ok"},
		{nil, "go 4 https://d.com/", "ok"},
		{nil, "go 0 https://c.com/", "error 6"},
		{nil, "go 9 https://c.com/", "error 6"},
		{nil, "go 9 c.com", "error 6"},
		{nil, "go 1 c.com", "error 3"},
		{nil, "go 1 https://C.com/", "error 3"},
		{nil, "go 1 -", "error 3"},
	})
	same(t, "a top", strings.Join(toldBehind(t, nil, "go 1 https://d.com/", "key 1", "key 2", "key 6", "key 7", "key 8"), " "),
		"ok https://d.com^https://d.com - - https://c.com^https://c.com https://b.com^https://c.com!")
	same(t, "one within", strings.Join(toldBehind(t, nil, "go 8 https://c.com/p", "key 7", "key 8"), " "), "ok https://c.com^https://c.com https://c.com^https://c.com")
	same(t, "a Sandbox stays one", strings.Join(toldBehind(t, nil, "go 4 https://a.com/", "key 4"), " "), "ok null#4^https://a.com")
}

func TestDeskPassesAndTouches(t *testing.T) {
	toldEach(t, []deskCase{
		{nil, "pass 0", "ok"},
		{nil, "pass 1", "ok"},
		{nil, "pass 1000", "ok"},
		{nil, "pass 1001", "error 8"},
		{nil, "pass 999999999", "error 8"},
		{[]string{"pass 1000", "pass 1000"}, "pass 1000", "ok"},
		{nil, "touch 1", "ok"},
		{nil, "touch 8", "ok"},
		{nil, "touch 0", "error 6"},
		{nil, "touch 9", "error 6"},
		{[]string{"go 1 https://a.com/"}, "touch 2", "error 6"},
	})
	// The first touch of a desk is at 1: so six minutes are left to ask.
	for minutes, told := range map[int]string{0: "ok", 1: "ok", 5: "ok", 6: "ok", 7: "error 10", 8: "error 10", 1000: "error 10"} {
		same(t, fmt.Sprint("asked behind ", minutes), toldBehind(t, []string{"touch 2", fmt.Sprint("pass ", minutes)}, "ask 2 no")[0], told)
	}
	for minutes, told := range map[int]string{0: "ok", 4: "ok", 5: "ok", 6: "error 10"} {
		same(t, fmt.Sprint("asked later, behind ", minutes), toldBehind(t, []string{"pass 20", "touch 3", fmt.Sprint("pass ", minutes)}, "ask 3 yes")[0], told)
	}
	same(t, "passed in two", toldBehind(t, []string{"pass 20", "touch 3", "pass 3", "pass 3"}, "ask 3 yes")[0], "error 10")
	same(t, "what is refused passes nothing", toldBehind(t, []string{"pass 20", "touch 3", "pass 1001"}, "ask 3 yes")[0], "ok")
}

func TestDeskAsks(t *testing.T) {
	toldEach(t, []deskCase{
		{nil, "ask 1 no", "ok"},
		{nil, "ask 6 yes", "ok"},
		{nil, "ask 2 yes", "error 10"},
		{nil, "ask 2 no", "error 10"},
		{nil, "ask 0 yes", "error 6"},
		{nil, "ask 9 no", "error 6"},
		{nil, "ask 4 yes", "error 11"},
		{nil, "ask 5 no", "error 11"},
		{[]string{"touch 2"}, "ask 2 no", "ok"},
		{[]string{"touch 2"}, "ask 2 yes", "ok"},
		{[]string{"touch 3"}, "ask 3 no", "error 11"},
		{[]string{"touch 3"}, "ask 3 yes", "ok"},
		{[]string{"touch 4"}, "ask 4 yes", "error 11"},
		{[]string{"touch 5"}, "ask 5 yes", "error 11"},
		{[]string{"touch 3"}, "ask 2 yes", "error 10"},
		{[]string{"touch 2", "ask 2 no"}, "ask 2 no", "ok"},
		{[]string{"touch 2", "ask 2 no"}, "ask 4 no", "ok"},
		{[]string{"touch 2", "ask 2 no", "pass 30"}, "ask 2 yes", "error 10"},
		{[]string{"touch 2", "ask 2 no"}, "ask 8 yes", "error 10"},
		{[]string{"touch 8"}, "ask 8 no", "error 11"},
		{[]string{"touch 8"}, "ask 8 yes", "ok"},
		{[]string{"go 8 https://city.uk/", "touch 8"}, "ask 8 no", "ok"},
		{[]string{"touch 2", "go 2 https://b.com/"}, "ask 2 yes", "error 10"},
	})
	// The World is told, if one is told, also beside a code: the touch is used.
	same(t, "denied, with the touch used", strings.Join(toldBehind(t, []string{"touch 3"}, "ask 3 no", "ask 3 yes", "touch 3", "ask 3 yes"), ", "), "error 11, error 10, ok, ok")
	same(t, "denied, another one's stays", strings.Join(toldBehind(t, []string{"touch 2", "touch 3"}, "ask 3 no", "ask 3 no", "ask 2 no"), ", "), "error 11, error 10, ok")
	same(t, "refused for its state", strings.Join(toldBehind(t, []string{"touch 2"}, "ask 3 no", "ask 2 no", "ask 9 no"), ", "), "error 10, ok, error 6")
	// Who has leave asks without a touch; the touch is still there when it has ended.
	same(t, "the touch is not used by who has leave", strings.Join(toldBehind(t, []string{"touch 2", "ask 2 no", "pass 29", "touch 2"}, "ask 2 no", "pass 1", "ask 2 no", "pass 30", "ask 2 no"), ", "), "ok, ok, ok, ok, error 10")
}

// Nine strangers ask: the last one is told ErrFull, and no World, so that its
// touch is not used.
func TestDeskAsksOfMany(t *testing.T) {
	lines := []string{"open 0 https://a.com/"}
	for i := range 9 {
		lines = append(lines, fmt.Sprintf("open 1 https://s%d.com/", i))
	}
	for i := range 9 {
		lines = append(lines, fmt.Sprint("touch ", i+2), fmt.Sprintf("ask %d yes", i+2))
	}
	lines = append(lines, "ask 10 yes", "ask 9 no", "pass 5", "ask 10 yes", "pass 25", "touch 10", "ask 10 yes", "ask 10 no")
	told := strings.Split(impl.DeskRun(deskText(lines...)).Text, "\n")
	want := []string{"frame 1"}
	for i := range 9 {
		want = append(want, fmt.Sprint("frame ", i+2))
	}
	want = append(want, slices.Repeat([]string{"ok"}, 17)...)
	want = append(want, "error 9", "error 9", "ok", "ok", "error 9", "ok", "ok", "ok", "ok", "")
	sameList(t, "nine ask", told, want)
}

func TestDeskKeepsAndLooks(t *testing.T) {
	long := strings.Repeat("v", 40)
	toldEach(t, []deskCase{
		{nil, "keep 1 n v", "ok"},
		{nil, "keep 4 a_1 " + long, "ok"},
		{nil, "keep 9 n v", "error 6"},
		{nil, "keep 0 n v", "error 6"},
		{nil, "keep 1 N v", "error 1"},
		{nil, "keep 1 1n v", "error 1"},
		{nil, "keep 1 " + longestName + " v", "ok"},
		{nil, "keep 1 " + longestName + "n v", "error 1"},
		{nil, "keep 1 n " + long + "v", "error 1"},
		{nil, "keep 9 N v", "error 6"},
		{[]string{"keep 1 n " + long}, "keep 1 m " + long[:18], "ok"},
		{[]string{"keep 1 n " + long}, "keep 1 m " + long[:19], "error 9"},
		{[]string{"keep 1 n " + long}, "keep 1 n v", "ok"},
		{[]string{"keep 1 n " + long}, "keep 2 m " + long, "ok"},
		{nil, "look 1 n", "error 6"},
		{nil, "look 9 n", "error 6"},
		{nil, "look 0 n", "error 6"},
		{nil, "look 1 N", "error 1"},
		{nil, "look 9 N", "error 6"},
		{[]string{"keep 1 n v"}, "look 1 n", "v"},
		{[]string{"keep 1 n v"}, "look 1 m", "error 6"},
		{[]string{"keep 1 n v"}, "look 1 nn", "error 6"},
		{[]string{"keep 1 n v"}, "look 2 n", "error 6"},
		{[]string{"keep 1 n v"}, "look 6 n", "error 6"},
		{[]string{"keep 1 n v", "keep 1 n w", "keep 1 m x"}, "look 1 n", "w"},
		{[]string{"keep 1 n v", "keep 1 n " + long + "v"}, "look 1 n", "v"},
		{[]string{"keep 2 n s", "keep 8 n t", "keep 4 n u"}, "look 2 n", "s"},
		{[]string{"keep 2 n s", "keep 8 n t", "keep 4 n u"}, "look 8 n", "t"},
		{[]string{"keep 2 n s", "keep 8 n t", "keep 4 n u"}, "look 4 n", "u"},
		{[]string{"keep 2 n s", "keep 8 n t"}, "look 4 n", "error 6"},
		{[]string{"keep 2 n s", "open 1 https://b.com/p"}, "look 9 n", "s"},
	})
	// No empty one is ever there to be looked at: no line keeps one, since no word is empty.
	for _, line := range []string{"keep 1 n ", "keep 1 n", "keep 1  v"} {
		isNoDesk(t, deskText(append(slices.Clone(deskHouse), line)...), int64(len(deskHouse)))
	}
	// Values come back as they are, whatever stands in them.
	for _, value := range []string{"-", "--", "ok", "error", "a;b", "a;", ";", "a,b", ",", "é", "\x00\xff", "\t", "\r", "^!", long} {
		same(t, shown(value), toldBehind(t, []string{"keep 3 n " + value}, "look 3 n")[0], value)
	}
}

func TestDeskFetches(t *testing.T) {
	leave := []string{"set 8 https://b.com/ p=8;Secure;Partitioned", "open 0 https://b.com/", "set 9 https://b.com/ n=1;Secure;SameSite=None", "touch 2", "ask 2 no"}
	without := slices.Concat(leave, []string{"pass 30"})
	toldEach(t, []deskCase{
		{nil, "fetch 1 https://a.com/", "0 -"},
		{nil, "fetch 6 https://a.com/", "0 -"},
		{nil, "fetch 1 https://b.com/", "1 -"},
		{nil, "fetch 1 http://a.com/", "1 -"},
		{nil, "fetch 2 https://b.com/", "1 -"},
		{nil, "fetch 9 https://a.com/", "error 6"},
		{nil, "fetch 0 https://a.com/", "error 6"},
		{nil, "fetch 9 a.com", "error 6"},
		{nil, "fetch 1 a.com", "error 3"},
		{nil, "fetch 1 -", "error 3"},
		{[]string{"set 1 https://a.com/ n=1"}, "fetch 1 https://a.com/", "0 n=1"},
		{[]string{"set 1 https://a.com/ n="}, "fetch 1 https://a.com/", "0 n="},
		{[]string{"set 1 https://a.com/ n=1", "set 1 https://a.com/ m=2"}, "fetch 1 https://a.com/", "0 n=1,m=2"},
		{[]string{"set 1 https://a.com/ n=1", "set 1 https://a.com/ m=2;Path=/p", "set 1 https://a.com/ n=3;Domain=a.com"}, "fetch 1 https://a.com/p", "0 m=2,n=1,n=3"},
		{[]string{"set 1 https://a.com/ n=1", "set 1 https://a.com/ m=2;Path=/p", "set 1 https://a.com/ n=3;Domain=a.com"}, "fetch 6 https://x.a.com/", "0 n=3"},
		{[]string{"set 1 https://a.com/ n=1"}, "fetch 2 https://a.com/", "1 -"},
		{[]string{"set 1 https://b.com/ n=1;Secure;Partitioned"}, "fetch 1 https://b.com/", "1 n=1"},
		{[]string{"set 1 https://b.com/ n=1;Secure;Partitioned"}, "fetch 2 https://b.com/", "1 n=1"},
		{[]string{"set 1 https://b.com/ n=1;Secure;Partitioned"}, "fetch 8 https://b.com/", "1 -"},
		{leave, "fetch 2 https://b.com/", "3 n=1"},
		{leave, "fetch 2 https://x.b.com/", "3 -"},
		{leave, "fetch 2 https://c.com/", "1 -"},
		{leave, "fetch 1 https://b.com/", "2 -"},
		{leave, "fetch 4 https://b.com/", "2 -"},
		{leave, "fetch 8 https://b.com/", "1 p=8"},
		{leave, "fetch 9 https://b.com/", "0 n=1"},
		{without, "fetch 2 https://b.com/", "1 -"},
		{without, "fetch 8 https://b.com/", "1 p=8"},
		{without, "fetch 9 https://b.com/", "0 n=1"},
	})
	// As many as a jar has.
	var sets, pairs []string
	for i := range impl.MaxJar + 1 {
		sets = append(sets, fmt.Sprintf("set 1 https://a.com/ n%d=%d", i, i))
		pairs = append(pairs, fmt.Sprintf("n%d=%d", i, i))
	}
	same(t, "a full jar", toldBehind(t, sets[:impl.MaxJar], "fetch 1 https://a.com/")[0], "0 "+strings.Join(pairs[:impl.MaxJar], ","))
	same(t, "one more", toldBehind(t, sets, "fetch 1 https://a.com/")[0], "0 "+strings.Join(pairs[1:], ","))
}

func TestDeskSets(t *testing.T) {
	toldEach(t, []deskCase{
		{nil, "set 1 https://a.com/ n=1", "ok"},
		{nil, "set 1 https://a.com/ n=", "ok"},
		{nil, "set 1 https://a.com/ n=1;Path=/p", "ok"},
		{nil, "set 1 https://a.com/ n=1;Domain=a.com;Path=/p;Max-Age=5;Secure;SameSite=Strict;Partitioned", "ok"},
		{nil, "set 2 https://b.com/ n=1;Secure;Partitioned", "ok"},
		{nil, "set 9 https://a.com/ n=1", "error 6"},
		{nil, "set 0 https://a.com/ n=1", "error 6"},
		{nil, "set 9 a.com n", "error 6"},
		{nil, "set 1 a.com n=1", "error 3"},
		{nil, "set 1 https://a.com/ n", "error 3"},
		{nil, "set 1 https://a.com/ =1", "error 3"},
		{nil, "set 1 https://a.com/ ;", "error 3"},
		{nil, "set 1 https://a.com/ n=1;", "error 3"},
		{nil, "set 1 https://a.com/ ;n=1", "error 3"},
		{nil, "set 1 https://a.com/ n=1;;Secure", "error 3"},
		{nil, "set 1 https://a.com/ n=1;secure", "error 3"},
		{nil, "set 1 https://a.com/ n=1;Secure;Path=/p", "error 3"},
		{nil, "set 1 https://a.com/ n=1,Secure", "error 3"},
		{nil, "set 1 https://a.com/ -", "error 3"},
		{nil, "set 1 https://b.com/ n=1", "error 11"},
		{nil, "set 2 https://b.com/ n=1;Secure;SameSite=None", "error 11"},
		{nil, "set 1 http://a.com/ n=1;Secure;Partitioned", "error 11"},
		{nil, "set 1 https://a.com/ n=1;Domain=b.com", "error 11"},
		{nil, "set 1 https://a.com/ n=1;Domain=com", "error 11"},
		{nil, "set 1 https://a.com/ n=1;SameSite=None", "error 11"},
		{[]string{"touch 2", "ask 2 no"}, "set 2 https://b.com/ n=1;Secure;SameSite=None", "ok"},
		{[]string{"touch 2", "ask 2 no", "pass 30"}, "set 2 https://b.com/ n=1;Secure;SameSite=None", "error 11"},
	})
	// What is set is told by what goes along.
	told := toldBehind(t, nil, "set 1 https://a.com/ n=1", "fetch 1 https://a.com/", "set 1 https://a.com/ n=2;Max-Age=9", "fetch 1 https://a.com/", "pass 8", "fetch 1 https://a.com/", "pass 1", "fetch 1 https://a.com/",
		"set 1 https://a.com/ n=3", "set 1 https://a.com/ n=;Max-Age=0", "fetch 1 https://a.com/", "set 1 https://a.com/ n=4;Secure", "fetch 6 http://a.com/", "fetch 6 https://a.com/")
	sameList(t, "set, and set anew", told, []string{"ok", "0 n=1", "ok", "0 n=2", "ok", "0 n=2", "ok", "0 -", "ok", "ok", "0 -", "ok", "1 -", "0 n=4"})
	// Each ; is two bytes then: what is too long by that is refused ahead of all else.
	for half, code := range map[int]string{impl.MaxBytes/2 - 1: "error 3", impl.MaxBytes / 2: "error 3", impl.MaxBytes/2 + 1: "error 2", impl.MaxBytes/2 + 2: "error 2"} {
		word := strings.Repeat(";", half)
		same(t, fmt.Sprint(half, " times ;"), toldBehind(t, nil, "set 1 https://a.com/ "+word)[0], code)
		same(t, fmt.Sprint(half, " times ; at no url"), toldBehind(t, nil, "set 1 a.com "+word)[0], code)
		same(t, fmt.Sprint(half, " times ; in no frame"), toldBehind(t, nil, "set 9 https://a.com/ "+word)[0], strings.Replace(code, "3", "6", 1))
	}
	same(t, "without ; it may be longer", toldBehind(t, nil, "set 1 https://a.com/ "+strings.Repeat("n", 7000))[0], "error 3")
}

func TestDeskClears(t *testing.T) {
	toldEach(t, []deskCase{
		{nil, "clear 1 https://a.com/ 7", "ok"},
		{nil, "clear 1 https://b.com/ 2", "ok"},
		{nil, "clear 1 http://a.com/ 4", "ok"},
		{nil, "clear 1 https://com/ 7", "ok"},
		{nil, "clear 1 https://a.com/ x", "ok"},
		{nil, "clear 9 https://a.com/ 7", "error 6"},
		{nil, "clear 0 https://a.com/ 7", "error 6"},
		{nil, "clear 9 a.com x", "error 6"},
		{nil, "clear 1 a.com 7", "error 3"},
		{nil, "clear 1 a.com x", "error 3"},
	})
	// The digit is a sum, of 2 for the cookies and 4 for what is stored; what is none clears nothing.
	begin := []string{"keep 1 n v", "set 1 https://a.com/ n=1", "set 1 https://a.com/ m=2;Secure;Partitioned", "keep 2 n w", "set 2 https://b.com/ n=3;Secure;Partitioned"}
	kinds := map[string]string{"0": "", "1": "", "2": "c", "3": "c", "4": "s", "5": "s", "6": "cs", "7": "cs", "8": "", "9": ""}
	for _, word := range []string{"00", "01", "07", "70", "10", "12", "22", "24", "44", "77", "777777777777777777777", "-", "-1", "-2", "+2", "2;", "2,4", "x", "7x", "x7", "*", `"*"`, `"cookies"`, `"cookies","storage"`, "cookies", "\x02", "\x04", "\x06", "\x37\x00", "２", "²", "\xff", strings.Repeat("7", 7000)} {
		kinds[word] = ""
	}
	for word, what := range kinds {
		told := toldBehind(t, begin, "clear 6 https://a.com/ "+word, "fetch 1 https://a.com/", "look 1 n", "fetch 2 https://b.com/", "look 2 n")
		want := []string{"ok", "0 n=1,m=2", "v", "1 n=3", "w"}
		if strings.Contains(what, "c") {
			want[1] = "0 -"
		}
		if strings.Contains(what, "s") {
			want[2] = "error 6"
		}
		sameList(t, "cleared at home by "+shown(word), told, want)
		told = toldBehind(t, begin, "clear 1 https://b.com/ "+word, "fetch 2 https://b.com/", "look 2 n", "fetch 1 https://a.com/", "look 1 n")
		want = []string{"ok", "1 n=3", "w", "0 n=1,m=2", "v"}
		if strings.Contains(what, "c") {
			want[1] = "1 -"
		}
		if strings.Contains(what, "s") {
			want[2] = "error 6"
		}
		sameList(t, "a stranger's cleared by "+shown(word), told, want)
		told = toldBehind(t, begin, "clear 6 http://a.com/ "+word, "fetch 1 https://a.com/", "look 1 n")
		sameList(t, "by http nothing is cleared by "+shown(word), told, []string{"ok", "0 n=1,m=2", "v"})
	}
}

func TestDeskKeys(t *testing.T) {
	toldEach(t, []deskCase{
		{nil, "key 1", "https://a.com^https://a.com"},
		{nil, "key 2", "https://b.com^https://a.com!"},
		{nil, "key 3", "https://c.com^https://a.com!"},
		{nil, "key 4", "null#4^https://a.com!"},
		{nil, "key 5", "http://b.com^https://a.com!"},
		{nil, "key 6", "https://x.a.com^https://a.com"},
		{nil, "key 7", "https://c.com^https://c.com"},
		{nil, "key 8", "https://b.com^https://c.com!"},
		{nil, "key 0", "-"},
		{nil, "key 9", "-"},
		{nil, "key 999999999", "-"},
		{[]string{"open 0 https://a.com/"}, "key 9", "https://a.com^https://a.com"},
		{[]string{"go 7 https://b.com/"}, "key 7", "https://b.com^https://b.com"},
		{[]string{"go 7 https://b.com/"}, "key 8", "-"},
	})
	same(t, "in a world without frames", impl.DeskRun("key 0\nkey 1\n").Text, "-\n-\n")
}

// seenByAll: lines that change nothing, and tell of all that is there.
func seenByAll() []string {
	var lines []string
	for id := range 10 {
		lines = append(lines, fmt.Sprint("key ", id))
	}
	for id := 1; id < 9; id++ {
		lines = append(lines, fmt.Sprintf("look %d n", id))
	}
	for id, url := range []string{"https://a.com/p", "https://b.com/", "https://c.com/", "https://b.com/"} {
		lines = append(lines, fmt.Sprintf("fetch %d %s", id+1, url))
	}
	return lines
}

// askedByAll: lines that tell of touches and of time.
func askedByAll() []string {
	return []string{"fetch 2 https://b.com/", "ask 2 no", "ask 3 yes", "ask 8 no", "fetch 2 https://b.com/", "pass 1", "touch 6", "pass 1000", "open 0 https://a.com/"}
}

// A line that tells a code leaves the World as it was ahead of it, but for what
// is asked for and denied behind a touch.
func TestDeskErrorsChangeNothing(t *testing.T) {
	begin := []string{"keep 1 n v", "keep 2 n w", "set 1 https://a.com/ n=1", "set 2 https://b.com/ n=2;Secure;Partitioned", "touch 2", "touch 3", "touch 8"}
	for _, line := range []string{
		"open 9 https://a.com/", "open 1 a.com", "box 0 https://a.com/", "go 9 https://a.com/", "go 1 a.com", "pass 1001", "touch 9", "touch 0", "ask 9 yes", "ask 4 yes", "ask 5 yes", "ask 5 no",
		"keep 9 n x", "keep 1 N x", "keep 1 m " + strings.Repeat("x", 41), "keep 2 n " + strings.Repeat("x", 41), "look 1 m", "look 9 n", "look 1 N", "fetch 9 https://a.com/", "fetch 1 a.com",
		"set 9 https://a.com/ n=3", "set 1 a.com n=3", "set 1 https://a.com/ n", "set 2 https://b.com/ n=3", "set 1 https://a.com/ n=3;Domain=b.com", "set 1 https://a.com/ n=3;SameSite=None",
		"set 1 https://a.com/ " + strings.Repeat(";", 4001), "clear 9 https://a.com/ 7", "clear 1 a.com 7",
	} {
		for _, probe := range [][]string{seenByAll(), askedByAll()} {
			told := toldBehind(t, begin, slices.Concat([]string{line}, probe)...)
			same(t, shown(line), strings.HasPrefix(told[0], "error "), true)
			sameList(t, shown(line)+": behind it", told[1:], toldBehind(t, begin, probe...))
		}
	}
	sameList(t, "denied behind a touch", toldBehind(t, begin, slices.Concat([]string{"ask 3 no"}, seenByAll())...)[1:], toldBehind(t, begin, seenByAll()...))
	same(t, "denied behind a touch: it is used", slices.Equal(toldBehind(t, begin, slices.Concat([]string{"ask 3 no"}, askedByAll())...)[1:], toldBehind(t, begin, askedByAll()...)), false)
}

// What looks, fetches and tells keys changes nothing either.
func TestDeskLooksChangeNothing(t *testing.T) {
	begin := []string{"keep 1 n v", "set 1 https://a.com/ n=1", "touch 2"}
	for _, line := range []string{"look 1 n", "fetch 1 https://a.com/", "fetch 2 https://b.com/", "key 1", "key 9", "pass 0", "clear 1 https://a.com/ 1", "clear 1 https://a.com/ x"} {
		for _, probe := range [][]string{seenByAll(), askedByAll()} {
			sameList(t, line, toldBehind(t, begin, slices.Concat([]string{line}, probe)...)[1:], toldBehind(t, begin, probe...))
		}
	}
}
