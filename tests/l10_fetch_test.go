package tests

import (
	"fmt"
	"strings"
	"testing"

	"loop.example/g00551/impl"
)

// What goes with what is asked for from within a page, and what is said of leave.

var (
	leaveToB = []func(w *impl.World){flagged(2), flagged(6), granted("https://a.com https://b.com 11")}
	noLeave  []func(w *impl.World)
)

func TestFetches(t *testing.T) {
	flag := []func(w *impl.World){flagged(2)}
	grant := []func(w *impl.World){granted("https://a.com https://b.com 11")}
	old := []func(w *impl.World){flagged(2), granted("https://a.com https://b.com 10")}
	elsewhere := []func(w *impl.World){flagged(2), granted("http://a.com https://b.com 11"), granted("https://x.a.com https://b.com 11"), granted("https://a.com http://b.com 11")}
	both := append([]func(w *impl.World){granted("https://a.com https://c.com 11")}, leaveToB...)
	atHome := []func(w *impl.World){flagged(5), granted("https://a.com https://a.com 11")}
	byHttp := []func(w *impl.World){flagged(9), granted("https://a.com http://b.com 11")}
	inHttp := []func(w *impl.World){flagged(8), granted("http://a.com https://b.com 11")}
	cases := []struct {
		what  string
		turns []func(w *impl.World)
		id    int64
		url   string
		says  int64
		text  string
	}{
		{"a top, its own url", noLeave, 1, "https://a.com/", 0, "lax=a; part=a"},
		{"a top, another host of its site", noLeave, 1, "https://x.a.com:8443/p", 0, "lax=a; part=a"},
		{"a top, its own host by http", noLeave, 1, "http://a.com/", impl.SfNone, ""},
		{"a top, another site", noLeave, 1, "https://b.com/", impl.SfNone, "part=b"},
		{"a top, another site that has leave", leaveToB, 1, "https://b.com/", impl.SfInactive, "part=b"},
		{"a top with a Flag, another site that has leave", append([]func(w *impl.World){flagged(1)}, leaveToB...), 1, "https://b.com/", impl.SfInactive, "part=b"},
		{"a top by http, its own url", noLeave, 7, "http://a.com/", 0, "lax=a"},
		{"a top by http, its own host by https", noLeave, 7, "https://a.com/", impl.SfNone, ""},
		{"of the top's site", noLeave, 4, "https://a.com/", 0, "lax=a; part=a"},
		{"of the top's site, its own url", noLeave, 4, "https://x.a.com/p", 0, "lax=a; part=a"},
		{"of the top's site, another one", noLeave, 4, "https://b.com/", impl.SfNone, "part=b"},
		{"a stranger without leave", noLeave, 2, "https://b.com/", impl.SfNone, "part=b"},
		{"a stranger with a Flag alone", flag, 2, "https://b.com/", impl.SfNone, "part=b"},
		{"a stranger with a Grant alone", grant, 2, "https://b.com/", impl.SfInactive, "part=b"},
		{"a stranger with both", leaveToB, 2, "https://b.com/", impl.SfActive, "none=b; part=b"},
		{"a stranger with both, another host", leaveToB, 2, "https://x.b.com:8443/p", impl.SfActive, "none=b; part=b"},
		{"a stranger with both, by http", leaveToB, 2, "http://b.com/", impl.SfNone, ""},
		{"a stranger with both, another site", leaveToB, 2, "https://c.com/", impl.SfNone, "part=c"},
		{"a stranger with both, another site that has leave, too", both, 2, "https://c.com/", impl.SfInactive, "part=c"},
		{"a stranger with both, the top's site", leaveToB, 2, "https://a.com/", impl.SfNone, "part=a"},
		{"a stranger with a Grant that is old", old, 2, "https://b.com/", impl.SfNone, "part=b"},
		{"a stranger with Grants of others", elsewhere, 2, "https://b.com/", impl.SfNone, "part=b"},
		{"a stranger without leave, another site that has", append([]func(w *impl.World){flagged(3)}, leaveToB...), 3, "https://b.com/", impl.SfInactive, "part=b"},
		{"a stranger without leave, its own site", leaveToB, 3, "https://c.com/", impl.SfNone, "part=c"},
		{"of the top's site within another's", noLeave, 5, "https://a.com/", impl.SfNone, "part=a"},
		{"of the top's site within another's, with both", atHome, 5, "https://a.com/", impl.SfActive, "part=a"},
		{"the top itself, with that", atHome, 1, "https://a.com/", 0, "lax=a; part=a"},
		{"a Sandbox without leave", noLeave, 6, "https://b.com/", impl.SfNone, "part=b"},
		{"a Sandbox with both", leaveToB, 6, "https://b.com/", impl.SfActive, "none=b; part=b"},
		{"in a page by http", noLeave, 8, "https://b.com/", impl.SfNone, "other=b"},
		{"in a page by http, with both", inHttp, 8, "https://b.com/", impl.SfActive, "none=b; other=b"},
		{"a stranger by http", noLeave, 9, "http://b.com/", impl.SfNone, ""},
		{"a stranger by http, with both", byHttp, 9, "http://b.com/", impl.SfActive, ""},
		{"a stranger by http, with both, by https", byHttp, 9, "https://b.com/", impl.SfNone, "part=b"},
		{"of which there is none", noLeave, 1, "https://d.com/", impl.SfNone, ""},
		{"a host without a Domain", noLeave, 1, "https://com/", impl.SfNone, ""},
	}
	for _, c := range cases {
		w := houseWith(c.turns...)
		want := impl.WorldOut{World: houseWith(c.turns...), Text: c.text, Says: c.says}
		sameWorldOut(t, c.what, impl.Fetch(w, c.id, c.url), want)
		sameWorldOut(t, c.what+": by form", fetchByForm(worldArgs{w: w, id: c.id, url: c.url}), want)
		sameWorldOut(t, c.what+": once more", impl.Fetch(want.World, c.id, c.url), want)
	}
}

// A frame reaches all just with a Flag, a live Grant of its own site, and as a
// stranger; and then at urls of its own site alone.
func TestFetchesByReach(t *testing.T) {
	for _, flag := range []bool{false, true} {
		for _, grants := range []string{"", "https://a.com https://b.com 10", "https://a.com https://b.com 11", "https://a.com https://c.com 11"} {
			for _, id := range []int64{1, 2, 3, 4, 6} {
				for _, url := range []string{"https://a.com/", "https://b.com/", "https://c.com/"} {
					turns := []func(w *impl.World){frameTurned(id, func(f *impl.Frame) { f.Flag = flag })}
					if grants != "" {
						turns = append(turns, granted(grants))
					}
					w := houseWith(turns...)
					ofB, ofC := strings.HasSuffix(grants, "b.com 11"), strings.HasSuffix(grants, "c.com 11")
					active := flag && (ofB && (id == 2 || id == 6) && url == "https://b.com/" || ofC && id == 3 && url == "https://c.com/")
					got := impl.Fetch(w, id, url)
					what := fmt.Sprint(flag, " ", grants, " ", id, " ", url)
					same(t, what, got.Says == impl.SfActive, active)
					same(t, what+": near", got.Says == 0, (id == 1 || id == 4) && url == "https://a.com/")
					sameWorldOut(t, what+": by form", fetchByForm(worldArgs{w: w, id: id, url: url}), got)
				}
			}
		}
	}
}

// Leave goes by with its Grant, and with what goes elsewhere.
func TestFetchesAsTimeGoesBy(t *testing.T) {
	w := impl.AskFor(impl.Touch(houseWorld(), 2).World, 2, false).World
	for minutes := range int64(40) {
		want := int64(impl.SfActive)
		if minutes >= impl.GrantLife {
			want = impl.SfNone
		}
		same(t, fmt.Sprint(minutes, " later"), impl.Fetch(impl.Pass(w, minutes).World, 2, "https://b.com/").Says, want)
	}
	same(t, "gone within its origin", impl.Fetch(impl.Go(w, 2, "https://b.com/p").World, 2, "https://b.com/").Says, impl.SfActive)
	same(t, "gone to another host", impl.Fetch(impl.Go(w, 2, "https://x.b.com/").World, 2, "https://b.com/").Says, impl.SfInactive)
	back := impl.Go(impl.Go(w, 2, "https://c.com/").World, 2, "https://b.com/").World
	same(t, "gone, and back", impl.Fetch(back, 2, "https://b.com/").Says, impl.SfInactive)
	same(t, "asked anew, untouched", impl.Fetch(impl.AskFor(back, 2, false).World, 2, "https://b.com/").Says, impl.SfActive)
	same(t, "another one of that site", impl.Fetch(w, 6, "https://b.com/").Says, impl.SfInactive)
}

func TestFetchesByCookie(t *testing.T) {
	w := houseWith(func(w *impl.World) {
		w.Jar = []impl.Cookie{
			{Name: "root", Value: "1", Host: "a.com", Path: "/", Made: 1},
			{Name: "path", Value: "2", Host: "a.com", Path: "/p", Made: 2},
			{Name: "alone", Value: "", Host: "a.com", Alone: true, Path: "/", Made: 3},
			{Name: "old", Value: "4", Host: "a.com", Path: "/", Until: 10, Made: 4},
			{Name: "young", Value: "5", Host: "a.com", Path: "/", Until: 11, Made: 5},
			{Name: "secure", Value: "6", Host: "a.com", Path: "/", Secure: true, Made: 6},
		}
	})
	for _, c := range []struct {
		id   int64
		url  string
		text string
	}{
		{1, "https://a.com/", "root=1; alone=; young=5; secure=6"},
		{1, "https://a.com/p", "path=2; root=1; alone=; young=5; secure=6"},
		{1, "https://a.com/pq", "root=1; alone=; young=5; secure=6"},
		{1, "https://x.a.com/", "root=1; young=5; secure=6"},
		{7, "http://a.com/", "root=1; alone=; young=5"},
		{2, "https://a.com/", ""},
	} {
		same(t, fmt.Sprint(c.id, " ", c.url), impl.Fetch(w, c.id, c.url).Text, c.text)
	}
	same(t, "a minute later", impl.Fetch(impl.Pass(w, 1).World, 7, "http://a.com/").Text, "root=1; alone=")
}

func TestFetchFaultsInTheirOrder(t *testing.T) {
	begin := worldArgs{w: houseWorld(), id: 2, url: "https://b.com/"}
	faultsInOrder(t, begin, fetchCall, tooLongUrls, wrongParts, frameOfZero, noFrames, wrongUrlFaults)
	for _, text := range wrongUrlTexts {
		code := int64(impl.ErrSyntax)
		if len(text) > impl.MaxBytes {
			code = impl.ErrSize
		}
		sameWorldOut(t, shown(text), impl.Fetch(houseWorld(), 2, text), wrongOut(code))
		sameWorldOut(t, shown(text)+": answer", impl.Answer(houseWorld(), 2, text, "", ""), wrongOut(code))
	}
}
