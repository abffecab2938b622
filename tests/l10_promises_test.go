package tests

import (
	"fmt"
	"math/rand"
	"slices"
	"testing"

	"loop.example/g00551/impl"
)

// The promises 17 to 21, of worlds and acts that are drawn.

// someRightWorld draws until one is right, and has frames.
func someRightWorld(r *rand.Rand) impl.World {
	for {
		if w := someWorld(r); len(w.Frames) > 0 && worldByForm(w) {
			return w
		}
	}
}

// Promise 17: what is kept is looked up in the same room.
func TestKeptIsLookedUp(t *testing.T) {
	r := rand.New(rand.NewSource(43))
	kept, shared, others := 0, 0, 0
	for range 1500 {
		w := someRightWorld(r)
		id, value := oneOf(r, w.Frames).Id, textOf(r.Intn(30))
		name := oneOf(r, []string{"m", "n", "o"})
		out := impl.Keep(w, id, name, value)
		if out.Code != impl.OK {
			same(t, "no room", out.Code, impl.ErrFull)
			continue
		}
		kept++
		key := impl.FrameKey(w.Frames, w.Rules, id)
		for _, f := range w.Frames {
			for _, at := range []string{"m", "n", "o"} {
				want := impl.Look(w, f.Id, at)
				if impl.FrameKey(w.Frames, w.Rules, f.Id) == key && at == name {
					want = impl.WorldOut{Text: value}
					shared++
				} else {
					others++
				}
				got := impl.Look(out.World, f.Id, at)
				same(t, fmt.Sprint(f.Id, " ", at, ": code"), got.Code, want.Code)
				same(t, fmt.Sprint(f.Id, " ", at, ": text"), got.Text, want.Text)
			}
		}
		// Kept is also what is told of it a while later.
		later := impl.Pass(out.World, 1)
		if later.Code == impl.OK {
			same(t, "later", impl.Look(later.World, id, name).Text, value)
		}
	}
	if kept < 700 || shared < kept+100 || others < 1000 {
		t.Errorf("%d are kept, looked up by %d: this tells little", kept, shared)
	}
}

// Promise 18: the touch is used by what is granted; leave is of its site in
// pages of that top alone.
func TestLeaveIsOfItsSiteAlone(t *testing.T) {
	r := rand.New(rand.NewSource(44))
	granted, denied := 0, 0
	for range 6000 {
		w := someRightWorld(r)
		id := oneOf(r, w.Frames).Id
		top, site := siteOfTop(w, id), siteOfFrame(w, id)
		before := liveByForm(w, top, site)
		out := impl.AskFor(w, id, r.Intn(2) == 0)
		if !isTold(out) {
			sameWorldOut(t, "nothing is told", out, wrongOut(out.Code))
			continue
		}
		after := out.World.Frames[placeOfId(out.World.Frames, id)]
		anew := !before && liveByForm(out.World, top, site)
		if anew {
			granted++
			same(t, "who is touched", w.Frames[placeOfId(w.Frames, id)].Touch > 0, true)
			same(t, "the touch is used", after.Touch, 0)
			again := impl.Pass(out.World, impl.GrantLife)
			if again.Code == impl.OK {
				same(t, "asked for again, when it is old", impl.AskFor(again.World, id, true).Code, impl.ErrState)
			}
		}
		if out.Code == impl.ErrDenied {
			denied++
			same(t, "told no, the touch is used", after.Touch, 0)
			same(t, "told no, nothing is live", liveByForm(out.World, top, site), before)
		}
		for _, t1 := range worldSites {
			for _, s1 := range worldSites {
				if t1 != top || s1 != site {
					same(t, "leave of "+s1+" in "+t1, liveByForm(out.World, t1, s1), liveByForm(w, t1, s1))
				}
			}
		}
		// No other frame is touched, or told of, by that.
		sameFrames(t, "the others", framesBut(out.World.Frames, id), framesBut(w.Frames, id))
	}
	if granted < 100 || denied < 40 {
		t.Errorf("%d are granted, %d denied: this tells little", granted, denied)
	}
}

// lacksLeave: is it a stranger that does not reach all?
func lacksLeave(w impl.World, id int64) bool {
	f := w.Frames[placeOfId(w.Frames, id)]
	return impl.FrameThird(w.Frames, w.Rules, id) && !(f.Flag && impl.GrantLive(w.Grants, siteOfTop(w, id), siteOfFrame(w, id), w.Now))
}

// Promise 19: without leave nothing but what lies in its part goes with what a
// stranger asks for.
func TestStrangersWithoutLeave(t *testing.T) {
	r := rand.New(rand.NewSource(45))
	asked, some, reach := 0, 0, 0
	for range 1500 {
		w := someRightWorld(r)
		for _, f := range w.Frames {
			top := siteOfTop(w, f.Id)
			alone := w
			alone.Jar = slices.DeleteFunc(slices.Clone(w.Jar), func(c impl.Cookie) bool { return c.Part != top })
			for _, url := range []string{impl.UrlText(f.Url), oneOf(r, someUrls)} {
				got := impl.Fetch(w, f.Id, url)
				if !lacksLeave(w, f.Id) {
					if got.Text != impl.Fetch(alone, f.Id, url).Text {
						reach++
					}
					continue
				}
				asked++
				same(t, "it is not near", got.Says == impl.SfNone || got.Says == impl.SfInactive, true)
				same(t, fmt.Sprintf("%+v, %d, %s", w, f.Id, url), got.Text, impl.Fetch(alone, f.Id, url).Text)
				if got.Text != "" {
					some++
				}
			}
		}
	}
	if asked < 1000 || some < 50 || reach < 200 {
		t.Errorf("%d ask, something goes with %d; %d reach more: this tells little", asked, some, reach)
	}
}

// seen: all that a frame sees of cookies and of its room.
func seen(w impl.World, id int64) string {
	text := ""
	for _, url := range append([]string{impl.UrlText(w.Frames[placeOfId(w.Frames, id)].Url)}, someUrls...) {
		out := impl.Fetch(w, id, url)
		text += fmt.Sprint(url, " ", out.Code, " ", out.Says, " ", out.Text, "\n")
	}
	for _, name := range []string{"m", "n", "o"} {
		out := impl.Look(w, id, name)
		text += fmt.Sprint(name, " ", out.Code, " ", out.Text, "\n")
	}
	return text
}

// Promise 20: what is done in pages of another house changes nothing of what a
// stranger without leave sees, as long as the jar has room.
func TestOtherHousesChangeNothing(t *testing.T) {
	r := rand.New(rand.NewSource(46))
	counts := codeCounts{}
	for range 2500 {
		w := someRightWorld(r)
		w.Jar = w.Jar[:min(len(w.Jar), 5)]
		id := oneOf(r, w.Frames).Id
		if !lacksLeave(w, id) {
			continue
		}
		house, before := siteOfTop(w, id), seen(w, id)
		for range 6 {
			a := someArgs(r, w)
			c := oneOf(r, worldCalls)
			if c.what == "Pass" || !isThere(a) || siteOfTop(w, a.id) == house {
				continue
			}
			out := c.call(a)
			counts.add(c.what, out)
			if !isTold(out) {
				continue
			}
			w = out.World
			same(t, fmt.Sprintf("%s of %+v: what %d sees", c.what, a, id), seen(w, id), before)
		}
		if t.Failed() {
			t.FailNow()
		}
	}
	counts.need(t, 20, "Open 0", "Go 0", "Touch 0", "AskFor 0", "Keep 0", "Answer 0")
}

// In the pages of its own house it does.
func TestItsOwnHouseChangesWhatItSees(t *testing.T) {
	before := seen(houseWorld(), 2)
	for what, got := range map[string]impl.WorldOut{
		"keep":          impl.Keep(houseWorld(), 2, "n", "other"),
		"set":           impl.Answer(houseWorld(), 1, "https://b.com/", "n=1; Secure; Partitioned", ""),
		"clear cookies": impl.Answer(houseWorld(), 1, "https://b.com/", "", `"cookies"`),
		"clear storage": impl.Answer(houseWorld(), 1, "https://b.com/", "", `"storage"`),
	} {
		same(t, what+": code", got.Code, impl.OK)
		same(t, what, seen(got.World, 2) == before, false)
	}
	for what, got := range map[string]impl.WorldOut{
		"keep":  impl.Keep(houseWorld(), 8, "n", "other"),
		"set":   impl.Answer(houseWorld(), 7, "https://b.com/", "n=1; Secure; Partitioned", ""),
		"clear": impl.Answer(houseWorld(), 8, "https://b.com/", "", `"*"`),
		"near":  impl.Answer(houseWorld(), 7, "http://a.com/", "n=1; Domain=a.com", ""),
	} {
		same(t, what+" in another house's: code", got.Code, impl.OK)
		same(t, what+" in another house's", seen(got.World, 2), before)
	}
}

// Promise 21: behind an answer by https that clears all, nothing is in the room
// of a frame of that origin any more.
func TestClearedRoomsAreEmpty(t *testing.T) {
	r := rand.New(rand.NewSource(47))
	emptied := 0
	for range 2000 {
		w := someRightWorld(r)
		f := oneOf(r, w.Frames)
		if f.Sandbox || f.Url.Scheme != "https" {
			continue
		}
		key := impl.FrameKey(w.Frames, w.Rules, f.Id)
		f.Url.Path = oneOf(r, []string{"/", "/p", "/q"})
		out := impl.Answer(w, f.Id, impl.UrlText(f.Url), "", oneOf(r, []string{`"*"`, `"storage"`, ` "storage" , "x"`}))
		same(t, "code", out.Code, impl.OK)
		if impl.AreaUsed(w.Area, key) > 0 {
			emptied++
		}
		same(t, "its room", impl.AreaUsed(out.World.Area, key), 0)
		sameArea(t, "the other rooms", out.World.Area, impl.AreaClear(w.Area, key))
		for _, name := range []string{"m", "n", "o"} {
			same(t, "looked up", impl.Look(out.World, f.Id, name).Code, impl.ErrNone)
		}
	}
	if emptied < 300 {
		t.Errorf("%d rooms are emptied: this tells little", emptied)
	}
}
