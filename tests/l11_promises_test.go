package tests

import (
	"fmt"
	"math/rand"
	"strings"
	"testing"

	"loop.example/g00551/impl"
)

// The promises 22 and 23, and desks whose later lines show what earlier ones did.

// Promise 22: each line of a desk tells a line, one by one.
func TestDesksTellLineByLine(t *testing.T) {
	r := rand.New(rand.NewSource(52))
	for range 60 {
		lines := someDesk(r)
		told := ""
		for count := range len(lines) + 1 {
			out := impl.DeskRun(deskText(lines[:count]...))
			same(t, "code", out.Code, impl.OK)
			same(t, fmt.Sprintf("%q: lines", lines[:count]), strings.Count(out.Text, "\n"), count)
			// One line more tells one line more, and what was told stays.
			rest, ok := strings.CutPrefix(out.Text, told)
			same(t, fmt.Sprintf("%q: goes on", lines[:count]), ok, true)
			if count > 0 {
				same(t, fmt.Sprintf("%q: one line", lines[:count]), len(rest) > 1 && strings.Index(rest, "\n") == len(rest)-1, true)
				same(t, fmt.Sprintf("%q: its words", lines[:count]), strings.Contains(" "+rest[:len(rest)-1]+" ", "  "), false)
			}
			told = out.Text
		}
		if t.Failed() {
			t.FailNow()
		}
	}
}

// Each line of the table by itself, in a desk of its own and in a house.
func TestDeskLinesTellALineEach(t *testing.T) {
	for _, first := range deskLines {
		for _, second := range deskLines {
			out := impl.DeskRun(deskText(first, second))
			same(t, first+", "+second, strings.Count(out.Text, "\n"), 2)
			ahead, _, _ := strings.Cut(out.Text, "\n")
			same(t, first+", "+second+": the first", ahead+"\n", impl.DeskRun(first+"\n").Text)
			same(t, first+", "+second+": in a house", len(toldBehind(t, nil, first, second)), 2)
		}
	}
}

// tellsEach: lines, each with what it tells behind it.
func tellsEach(t *testing.T, what string, both ...string) {
	t.Helper()
	var lines, want []string
	for i := 0; i < len(both); i += 2 {
		lines, want = append(lines, both[i]), append(want, both[i+1])
	}
	out := impl.DeskRun(deskText(lines...))
	same(t, what+": code", out.Code, impl.OK)
	same(t, what, out.Text, deskText(want...))
}

// Promise 23: a stranger within has its own room and its own cookies in each
// house's pages; touched and told yes it reaches what it has everywhere, for a
// while.
func TestStrangersReachForAWhile(t *testing.T) {
	sites := []string{"https://a.com", "https://b.com", "https://c.com", "https://city.uk", "https://shop.co.uk", "https://d.com"}
	for _, one := range sites {
		for _, other := range sites {
			for _, within := range sites {
				if one == other || one == within || other == within {
					continue
				}
				url := within + "/"
				tellsEach(t, within+" in "+one+" and in "+other,
					"open 0 "+one+"/", "frame 1",
					"open 1 "+url, "frame 2",
					"open 0 "+other+"/", "frame 3",
					"open 3 "+url, "frame 4",
					"open 0 "+url, "frame 5",
					"keep 2 n one", "ok",
					"keep 4 n other", "ok",
					"keep 5 n own", "ok",
					"look 2 n", "one",
					"look 4 n", "other",
					"look 5 n", "own",
					"look 1 n", "error 6",
					"set 2 "+url+" n=one;Secure;Partitioned", "ok",
					"set 4 "+url+" n=other;Secure;Partitioned", "ok",
					"set 5 "+url+" n=own;Secure;SameSite=None", "ok",
					"fetch 2 "+url, "1 n=one",
					"fetch 4 "+url, "1 n=other",
					"fetch 5 "+url, "0 n=own",
					"set 2 "+url+" m=all;Secure;SameSite=None", "error 11",
					"ask 2 yes", "error 10",
					"touch 2", "ok",
					"ask 2 yes", "ok",
					"fetch 2 "+url, "3 n=one,n=own",
					"fetch 4 "+url, "1 n=other",
					"set 2 "+url+" m=all;Secure;SameSite=None", "ok",
					"fetch 5 "+url, "0 n=own,m=all",
					"look 2 n", "one",
					"pass 29", "ok",
					"fetch 2 "+url, "3 n=one,n=own,m=all",
					"pass 1", "ok",
					"fetch 2 "+url, "1 n=one",
					"set 2 "+url+" m=more;Secure;SameSite=None", "error 11",
					"ask 2 yes", "error 10",
					"look 4 n", "other")
			}
		}
	}
}

// Who is touched and told no reaches nothing more, unless it is related.
func TestStrangersToldNo(t *testing.T) {
	for within, codes := range map[string][2]string{
		"https://b.com/": {"ok", "3 n=1"}, "https://x.b.com/": {"ok", "3 n=1"}, "https://c.com/": {"error 11", "1 -"}, "https://city.uk/": {"error 11", "1 -"}, "http://b.com/": {"error 11", "1 -"},
	} {
		tellsEach(t, within, "open 0 https://a.com/", "frame 1", "open 1 "+within, "frame 2", "open 0 "+strings.Replace(within, "http:", "https:", 1), "frame 3",
			"set 3 "+strings.Replace(within, "http:", "https:", 1)+" n=1;Secure;SameSite=None", "ok",
			"touch 2", "ok", "ask 2 no", codes[0], "fetch 2 "+within, codes[1])
	}
}

// Frames: what lies in what goes elsewhere is shut, and what is opened then is
// told by another Id, if one behind it is still there.
func TestDeskOfFrames(t *testing.T) {
	tellsEach(t, "frames",
		"open 0 https://a.com/", "frame 1", "open 1 https://b.com/", "frame 2", "box 2 https://c.com/", "frame 3", "open 3 https://a.com/p", "frame 4",
		"key 1", "https://a.com^https://a.com", "key 2", "https://b.com^https://a.com!", "key 3", "null#3^https://a.com!", "key 4", "https://a.com^https://a.com!",
		"go 2 https://x.a.com/", "ok", "key 2", "https://x.a.com^https://a.com", "key 3", "-", "key 4", "-", "touch 4", "error 6", "go 4 https://a.com/", "error 6",
		"open 0 https://c.com/", "frame 3", "box 3 https://city.uk/", "frame 4", "key 4", "null#4^https://c.com!", "go 1 https://www.shop.co.uk:8443/", "ok",
		"key 1", "https://www.shop.co.uk:8443^https://shop.co.uk", "key 2", "-", "open 2 https://a.com/", "error 6", "open 1 https://a.com/", "frame 5", "key 5", "https://a.com^https://shop.co.uk!",
		"go 3 https://c.com/", "ok", "open 3 https://c.com/p", "frame 6", "key 6", "https://c.com^https://c.com", "key 4", "-")
}

// Cookies: which are set, go along, are old, and are cleared.
func TestDeskOfCookies(t *testing.T) {
	tellsEach(t, "cookies",
		"open 0 https://a.com/", "frame 1", "open 1 https://b.com/", "frame 2", "open 0 https://b.com/", "frame 3",
		"set 1 https://a.com/ a=1;Max-Age=10", "ok", "set 1 https://x.a.com/ b=2;Domain=a.com;Path=/p;Secure", "ok", "set 1 https://a.com/ c=3;SameSite=Strict", "ok",
		"set 3 https://b.com/ d=4;Secure;SameSite=None", "ok", "set 2 https://b.com/ e=5;Secure;Partitioned", "ok", "set 1 https://b.com/ f=6;Secure;Partitioned", "ok",
		"fetch 1 https://a.com/p/q", "0 b=2,a=1,c=3", "fetch 1 https://a.com/pq", "0 a=1,c=3", "fetch 1 http://a.com/p", "1 -", "fetch 2 https://b.com/", "1 e=5,f=6", "fetch 3 https://b.com/", "0 d=4",
		"set 1 https://a.com/ a=7;Max-Age=10", "ok", "fetch 1 https://a.com/", "0 c=3,a=7", "pass 9", "ok", "fetch 1 https://a.com/", "0 c=3,a=7", "pass 1", "ok", "fetch 1 https://a.com/", "0 c=3",
		"clear 2 https://b.com/ 2", "ok", "fetch 2 https://b.com/", "1 -", "fetch 3 https://b.com/", "0 d=4", "fetch 1 https://a.com/", "0 c=3",
		"clear 3 https://b.com/ 2", "ok", "fetch 3 https://b.com/", "0 -", "clear 1 https://x.a.com/ 3", "ok", "fetch 1 https://a.com/p", "0 -")
}

// Rooms: what is kept, anew and beside others, until it is cleared.
func TestDeskOfRooms(t *testing.T) {
	long := strings.Repeat("v", 40)
	tellsEach(t, "rooms",
		"open 0 https://a.com/", "frame 1", "open 1 https://b.com/", "frame 2", "open 0 https://b.com/", "frame 3", "box 1 https://b.com/", "frame 4", "open 1 https://b.com/p", "frame 5",
		"keep 1 n a;b", "ok", "keep 2 n "+long, "ok", "keep 3 n -", "ok", "keep 4 n x", "ok", "look 1 n", "a;b", "look 2 n", long, "look 3 n", "-", "look 4 n", "x", "look 5 n", long,
		"keep 5 m "+long, "error 9", "keep 5 m w", "ok", "look 2 m", "w", "keep 5 n v", "ok", "keep 5 m "+long, "ok", "look 2 m", long, "look 2 n", "v",
		"clear 2 https://b.com/ 4", "ok", "look 2 n", "error 6", "look 5 m", "error 6", "look 3 n", "-", "look 4 n", "x", "look 1 n", "a;b",
		"clear 1 https://a.com/ 7", "ok", "look 1 n", "error 6", "clear 3 http://b.com/ 7", "ok", "look 3 n", "-", "clear 3 https://b.com/ 5", "ok", "look 3 n", "error 6")
}

// Leave and time: a touch holds for a while, and so does leave.
func TestDeskOfLeave(t *testing.T) {
	tellsEach(t, "leave",
		"open 0 https://a.com/", "frame 1", "open 1 https://b.com/", "frame 2", "open 1 https://c.com/", "frame 3", "open 0 https://b.com/", "frame 4", "set 4 https://b.com/ n=1;Secure;SameSite=None", "ok",
		"pass 100", "ok", "touch 2", "ok", "touch 3", "ok", "pass 5", "ok", "ask 3 no", "error 11", "ask 3 yes", "error 10", "ask 2 no", "ok", "fetch 2 https://b.com/", "3 n=1", "fetch 1 https://b.com/", "2 -",
		"go 2 https://b.com/p", "ok", "fetch 2 https://b.com/", "3 n=1", "go 2 https://x.b.com/", "ok", "fetch 2 https://b.com/", "2 -", "ask 2 no", "ok", "fetch 2 https://b.com/", "3 n=1",
		"open 1 https://b.com/", "frame 5", "fetch 5 https://b.com/", "2 -", "pass 29", "ok", "ask 5 no", "ok", "fetch 5 https://b.com/", "3 n=1", "pass 1", "ok", "fetch 5 https://b.com/", "1 -", "ask 5 no", "error 10",
		"touch 5", "ok", "pass 6", "ok", "ask 5 no", "error 10", "touch 5", "ok", "ask 5 no", "ok", "fetch 5 https://b.com/", "3 n=1", "fetch 2 https://b.com/", "3 n=1", "go 1 https://c.com/", "ok", "fetch 1 https://b.com/", "1 -")
}
