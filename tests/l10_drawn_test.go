package tests

import (
	"fmt"
	"math/rand"
	"slices"
	"testing"

	"loop.example/g00551/impl"
)

// Worlds and acts that are drawn, held against plain readings of the document.

// worldSites: those of frameUrls by siteRules, rising.
var worldSites = []string{"http://a.com", "https://a.com", "https://b.com", "https://city.uk", "https://com", "https://shop.co.uk", "https://xa.com"}

// someWorld draws one that is most often right, and whose parts meet.
func someWorld(r *rand.Rand) impl.World {
	w := impl.World{Rules: siteRules, Sets: setsOf("a.com:b.com", "city.uk:shop.co.uk"), Frames: someFrames(r), Jar: someHouseJar(r)}
	w.Now = oneOf(r, []int64{0, 1, 4, 5, 6, 9, 10, 10, 11, 15, 16, impl.MaxTime - 999, impl.MaxTime - 1, impl.MaxTime})
	switch r.Intn(30) {
	case 0:
		w.Rules, w.Sets = someRules(r), nil
	case 1:
		w.Sets = someSets(r)
	case 2:
		w.Now = oneOf(r, wrongTimes)
	}
	for i := range w.Frames {
		if r.Intn(2) == 0 {
			w.Frames[i].Touch = max(w.Now-int64(r.Intn(3)), 0)
		}
	}
	w.Area, w.Grants = someHouseRooms(r, w), someLeaves(r, w)
	return w
}

func someHouseJar(r *rand.Rand) []impl.Cookie {
	var l []impl.Cookie
	for i := range r.Intn(impl.MaxJar + 1) {
		c := someCookie(r)
		c.Made = int64(i + 1)
		if c.Part != "" {
			c.Part = oneOf(r, worldSites)
		}
		if !slices.ContainsFunc(l, func(other impl.Cookie) bool { return placeByForm(other) == placeByForm(c) }) {
			l = append(l, c)
		}
	}
	if len(l) > 0 && r.Intn(20) == 0 {
		l[len(l)-1].Made = impl.MaxTime
	}
	return l
}

// someLeaves draws grants, of those who are in that world among them.
func someLeaves(r *rand.Rand, w impl.World) []impl.Grant {
	if r.Intn(6) == 0 {
		return manyGrants(impl.MaxGrants)
	}
	var l []impl.Grant
	add := func(top string, site string) {
		has := func(g impl.Grant) bool { return g.Top == top && g.Site == site }
		if len(l) < impl.MaxGrants && r.Intn(3) == 0 && !slices.ContainsFunc(l, has) {
			l = append(l, impl.Grant{Top: top, Site: site, Until: oneOf(r, []int64{0, 5, 10, 11, 20, 100, impl.MaxTime})})
		}
	}
	for _, f := range w.Frames {
		if framesByForm(w.Frames) && impl.RulesRight(w.Rules) {
			add(siteOfTop(w, f.Id), siteOfFrame(w, f.Id))
		}
	}
	add(oneOf(r, worldSites), oneOf(r, worldSites))
	l = slices.DeleteFunc(l, func(g impl.Grant) bool { return g.Top == "" || g.Site == "" })
	slices.SortFunc(l, func(a impl.Grant, b impl.Grant) int {
		return slices.Compare([]string{a.Top, a.Site}, []string{b.Top, b.Site})
	})
	return l
}

// someHouseRooms draws entries in rooms of that world's frames.
func someHouseRooms(r *rand.Rand, w impl.World) []impl.Entry {
	keys := []string{"k"}
	for _, f := range w.Frames {
		if key := impl.FrameKey(w.Frames, w.Rules, f.Id); key != "" {
			keys = append(keys, key)
		}
	}
	slices.Sort(keys)
	var l []impl.Entry
	for _, key := range slices.Compact(keys) {
		for _, name := range []string{"m", "n"} {
			if len(l) < impl.MaxEntries && r.Intn(2) == 0 {
				l = append(l, impl.Entry{Key: key, Name: name, Value: textOf(oneOf(r, []int{0, 1, 20, 29, 40}))})
			}
		}
	}
	return l
}

var (
	someSetTexts = []string{"", "", "n=1", "a=2; Path=/p", "a=3; Domain=a.com", "b=4; Secure; SameSite=None", "b=5; Secure; Partitioned", "b=6; Domain=b.com; Max-Age=5; Secure; SameSite=None; Partitioned",
		"a=7; Max-Age=0", "a=8; Domain=com", "b=9; Secure; SameSite=Strict", "b=1; SameSite=None", "b=1; Partitioned", "x", "=", "a=1; b"}
	someClears = []string{"", "", `"*"`, `"cookies"`, `"storage"`, `"cache", "storage"`, "x"}
	someUrls   = append([]string{"https://b.com/p", "https://www.city.uk/", "http://b.com/", "https://com/p"}, frameUrls...)
)

// someArgs draws what a call is given in that world.
func someArgs(r *rand.Rand, w impl.World) worldArgs {
	a := worldArgs{w: w, id: someId(r, w.Frames), url: oneOf(r, someUrls), sandbox: r.Intn(3) == 0, minutes: oneOf(r, []int64{-1, 0, 1, 2, 5, 6, 30, 999, 1000, 1001}),
		yes: r.Intn(2) == 0, name: oneOf(r, []string{"m", "n", "o"}), value: textOf(oneOf(r, []int{0, 1, 20, 29, 40})), set: oneOf(r, someSetTexts), clear: oneOf(r, someClears)}
	if at := placeOfId(w.Frames, a.id); at >= 0 && impl.UrlRight(w.Frames[at].Url) && r.Intn(2) == 0 {
		a.url = impl.UrlText(w.Frames[at].Url)
	}
	switch r.Intn(60) {
	case 0:
		a.url = oneOf(r, wrongUrlTexts)
	case 1:
		a.name = oneOf(r, wrongNames)
	case 2:
		a.value = oneOf(r, wrongValues)
	case 3:
		a.set = oneOf(r, wrongSetTexts)
	case 4:
		a.url, a.name, a.value, a.set, a.clear = oneOf(r, []string{tooLong, a.url}), oneOf(r, []string{tooLong, a.name}), oneOf(r, []string{tooLong, a.value}), oneOf(r, []string{tooLong, a.set}), oneOf(r, []string{tooLong, a.clear})
	}
	return a
}

// isTold: is a world told?
func isTold(out impl.WorldOut) bool {
	return out.Code == impl.OK || out.Code == impl.ErrDenied && len(out.World.Frames) > 0
}

// codeCounts: how often each call told each code.
type codeCounts map[string]int

func (c codeCounts) add(what string, out impl.WorldOut) {
	c[fmt.Sprint(what, " ", out.Code)]++
	if out.Code == impl.OK && what == "Fetch" {
		c[fmt.Sprint(what, " says ", out.Says)]++
	}
	if out.Code == impl.ErrDenied && isTold(out) {
		c[what+" denied, told"]++
	}
}

func (c codeCounts) need(t *testing.T, least int, all ...string) {
	t.Helper()
	for _, what := range all {
		if c[what] < least {
			t.Errorf("%s: %d times: this tells little", what, c[what])
		}
	}
}

func TestWorldsDrawn(t *testing.T) {
	r := rand.New(rand.NewSource(40))
	counts := codeCounts{}
	right := 0
	for range 6000 {
		w := someWorld(r)
		if worldByForm(w) {
			right++
		}
		same(t, fmt.Sprintf("%+v: right", w), impl.WorldRight(w), worldByForm(w))
		a := someArgs(r, w)
		all := fmt.Sprintf("%+v", a)
		for _, c := range worldCalls {
			got := c.call(a)
			counts.add(c.what, got)
			what := c.what + " of " + all
			sameWorldOut(t, what, got, c.form(a))
			// Promise 17: a right world stays right.
			if isTold(got) {
				same(t, what+": right", impl.WorldRight(got.World), true)
			}
		}
		if t.Failed() {
			t.FailNow()
		}
	}
	if right < 3000 || right > 5500 {
		t.Errorf("%d of 6000 are right: this tells little", right)
	}
	for _, c := range worldCalls {
		counts.need(t, 200, c.what+" 0", c.what+" 1")
		if c.what != "Pass" {
			counts.need(t, 100, c.what+" 6")
		}
	}
	counts.need(t, 100, "Open 9", "Pass 8", "AskFor 10", "AskFor 11", "AskFor denied, told", "Keep 9", "Answer 3", "Answer 11", "Fetch says 0", "Fetch says 1")
	counts.need(t, 50, "Fetch says 2", "Fetch says 3")
	counts.need(t, 15, "Open 3", "Go 3", "Fetch 3", "AskFor 9", "Answer 9", "Open 2", "Go 2", "Keep 2", "Look 2", "Fetch 2", "Answer 2")
}

// One act behind the other, from a new world on.
func TestWorldsOneByOne(t *testing.T) {
	r := rand.New(rand.NewSource(41))
	counts := codeCounts{}
	for range 100 {
		w := impl.WorldNew("com\n*.uk\n!city.uk\nio.com\n", "a.com:b.com\ncity.uk:shop.co.uk\n").World
		for range 120 {
			c := oneOf(r, worldCalls)
			if r.Intn(3) == 0 {
				c = worldCalls[0]
			}
			a := someArgs(r, w)
			if len(w.Frames) > 0 && r.Intn(2) == 0 {
				a.id = w.Frames[len(w.Frames)-1].Id
			}
			if c.what == "Pass" {
				a.minutes = int64(r.Intn(4))
			}
			if c.what == "Open" && len(w.Frames) == 0 {
				a.id, a.sandbox = 0, false
			}
			got := c.call(a)
			counts.add(c.what, got)
			sameWorldOut(t, fmt.Sprintf("%s of %+v", c.what, a), got, c.form(a))
			if isTold(got) {
				w = got.World
			}
			same(t, "right", impl.WorldRight(w), true)
		}
		if t.Failed() {
			t.FailNow()
		}
	}
	counts.need(t, 50, "Open 0", "Go 0", "Touch 0", "AskFor 0", "Keep 0", "Look 0", "Fetch 0", "Answer 0", "Fetch says 0", "Fetch says 1")
	counts.need(t, 5, "Fetch says 2", "Fetch says 3", "AskFor denied, told", "AskFor 10")
}

// world: a copy in memory that can be turned, in lists with room behind their ends.
func (b *inBytes) world(w impl.World) impl.World {
	held := w
	held.Rules = b.texts(w.Rules)
	held.Sets = make([]impl.SiteSet, 0, len(w.Sets)+3)
	for _, s := range w.Sets {
		held.Sets = append(held.Sets, impl.SiteSet{Primary: b.text(s.Primary), Members: b.texts(s.Members)})
	}
	held.Frames, held.Jar, held.Area, held.Grants = b.frames(w.Frames), b.jar(w.Jar), b.area(w.Area), b.grants(w.Grants)
	return held
}

func (b *inBytes) texts(l []string) []string {
	held := make([]string, 0, len(l)+3)
	for _, text := range l {
		held = append(held, b.text(text))
	}
	return held
}

// sameWorldBehind: what was handed in is as it was, and so is the room behind
// each of its lists.
func sameWorldBehind(t *testing.T, held impl.World, w impl.World) {
	t.Helper()
	sameWorld(t, "the world handed in", held, w)
	sameList(t, "what lies behind the rules", held.Rules[len(held.Rules):cap(held.Rules)], make([]string, 3))
	for _, s := range held.Sets {
		sameList(t, "what lies behind the members", s.Members[len(s.Members):cap(s.Members)], make([]string, 3))
	}
	sameSets(t, "what lies behind the sets", held.Sets[len(held.Sets):cap(held.Sets)], make([]impl.SiteSet, 3))
	sameFramesBehind(t, held.Frames, w.Frames)
	sameBehind(t, held.Jar, w.Jar)
	sameAreaBehind(t, held.Area, w.Area)
	sameGrantsBehind(t, held.Grants, w.Grants)
}

// wipe clears all lists of a world that was handed in.
func wipe(w impl.World) {
	clear(w.Rules)
	for _, s := range w.Sets {
		clear(s.Members)
	}
	clear(w.Sets)
	clear(w.Frames)
	clear(w.Jar)
	clear(w.Area)
	clear(w.Grants)
}

// writeAll writes into all lists of an answer, and behind them.
func writeAll(w impl.World) {
	for _, s := range w.Sets {
		_ = append(s.Members, "other")
		for i := range s.Members {
			s.Members[i] = "other"
		}
	}
	_, _, _ = append(w.Rules, "other"), append(w.Sets, impl.SiteSet{Primary: "other"}), append(w.Frames, aFrame)
	_, _, _ = append(w.Jar, aCookie), append(w.Area, anEntry), append(w.Grants, aGrant)
	for i := range w.Rules {
		w.Rules[i] = "other"
	}
	for i := range w.Sets {
		w.Sets[i].Primary = "other"
	}
	for i := range w.Frames {
		w.Frames[i].Id = -7
	}
	for i := range w.Jar {
		w.Jar[i].Name = "other"
	}
	for i := range w.Area {
		w.Area[i].Name = "other"
	}
	for i := range w.Grants {
		w.Grants[i].Top = "other"
	}
}

// newMemory: a call changes nothing that it is given, keeps none of it, and is
// not changed through what it told.
func newMemory(t *testing.T, what string, a worldArgs, call func(a worldArgs) impl.WorldOut) {
	t.Helper()
	want := call(a)
	var b inBytes
	lent := a
	lent.w, lent.url, lent.name, lent.value, lent.set, lent.clear = b.world(a.w), b.text(a.url), b.text(a.name), b.text(a.value), b.text(a.set), b.text(a.clear)
	got := call(lent)
	sameWorldBehind(t, lent.w, a.w)
	same(t, what+": the texts handed in", lent.url+lent.name+lent.value+lent.set+lent.clear, a.url+a.name+a.value+a.set+a.clear)
	b.turn()
	wipe(lent.w)
	sameWorldOut(t, what+": behind the call", got, want)
	b.turn()
	// Handed in anew, and told of: what is written into the answer is not seen.
	lent.w = b.world(a.w)
	got = call(lent)
	writeAll(got.World)
	sameWorldBehind(t, lent.w, a.w)
	ownLists(t, want.World, call(a).World)
}

func TestWorldsAreNewMemory(t *testing.T) {
	house := houseWith(append(leaveToB, touchedAt(2, 10), touchedAt(3, 10), touchedAt(6, 10))...)
	for _, id := range []int64{0, 1, 2, 3, 4, 6, 9, 10} {
		for _, yes := range []bool{false, true} {
			a := worldArgs{w: house, id: id, url: "https://b.com/p", minutes: 7, yes: yes, name: "n", value: "value", set: "n=1; Path=/p; Secure; SameSite=None", clear: ""}
			if yes {
				a.set, a.clear = "", `"cookies", "storage"`
			}
			for _, c := range worldCalls {
				newMemory(t, fmt.Sprint(c.what, " ", id, " ", yes), a, c.call)
			}
		}
	}
	r := rand.New(rand.NewSource(42))
	for range 200 {
		a := someArgs(r, someWorld(r))
		for _, c := range worldCalls {
			newMemory(t, fmt.Sprintf("%s of %+v", c.what, a), a, c.call)
		}
		if t.Failed() {
			t.FailNow()
		}
	}
	var b inBytes
	held := b.world(house)
	same(t, "right", impl.WorldRight(held), true)
	sameWorldBehind(t, held, house)
}

// Whatever is given, each call answers.
func TestWorldCallsOfAnything(t *testing.T) {
	ends := []int64{-1 << 63, -1, 0, 1, 2, impl.MaxTime, impl.MaxTime + 1, 1 << 32, 1<<63 - 1}
	texts := []string{"", "\x00", "\xff", "é", ";", "=", `"*"`, "https://", "https://a.com/", "a=1", tooLong[1:], tooLong}
	worlds := []impl.World{{}, houseWorld(), {Now: -1}, {Rules: make([]string, 500), Sets: make([]impl.SiteSet, 500), Frames: make([]impl.Frame, 500), Jar: make([]impl.Cookie, 500), Area: make([]impl.Entry, 500), Grants: make([]impl.Grant, 500)},
		{Frames: []impl.Frame{{Id: 1, Parent: 1}}}, {Frames: []impl.Frame{{Id: 1, Parent: 2}, {Id: 2, Parent: 1}}}, {Sets: []impl.SiteSet{{}}}, {Rules: []string{tooLong}}}
	for _, w := range worlds {
		for _, n := range ends {
			for i, text := range texts {
				other := texts[(i+5)%len(texts)]
				w.Now = n
				a := worldArgs{w: w, id: n, url: text, sandbox: i%2 == 0, minutes: n, yes: i%3 == 0, name: other, value: text, set: other, clear: text}
				for _, c := range worldCalls {
					got, want := c.call(a), c.form(a)
					same(t, fmt.Sprint(c.what, " ", n, " ", shown(text)), got.Code, want.Code)
				}
				impl.WorldNew(text, other)
			}
		}
	}
}
