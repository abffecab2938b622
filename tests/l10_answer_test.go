package tests

import (
	"fmt"
	"slices"
	"strings"
	"testing"

	"loop.example/g00551/impl"
)

// What comes back: what it sets, and what it clears.

// putInJar: one more behind the others of the house.
func putInJar(c impl.Cookie) func(w *impl.World) {
	return func(w *impl.World) {
		c.Made = w.Jar[len(w.Jar)-1].Made + 1
		w.Jar = append(w.Jar, c)
	}
}

func TestAnswersThatSet(t *testing.T) {
	plain := impl.Cookie{Name: "n", Value: "1", Host: "a.com", Alone: true, Path: "/"}
	plainOf := func(turn func(c *impl.Cookie)) *impl.Cookie {
		c := turned(plain, turn)
		return &c
	}
	atB := func(c *impl.Cookie) { c.Host = "b.com" }
	atBNone := func(c *impl.Cookie) { c.Host, c.Secure, c.Mode = "b.com", true, impl.MdNone }
	atBPart := func(c *impl.Cookie) { c.Host, c.Secure, c.Part = "b.com", true, "https://a.com" }
	const none, part = "n=1; Secure; SameSite=None", "n=1; Secure; Partitioned"
	flag := []func(w *impl.World){flagged(2)}
	grant := []func(w *impl.World){granted("https://a.com https://b.com 11")}
	old := []func(w *impl.World){flagged(2), granted("https://a.com https://b.com 10")}
	cases := []struct {
		what  string
		turns []func(w *impl.World)
		id    int64
		url   string
		set   string
		want  *impl.Cookie // nil: ErrDenied
	}{
		{"a top, near", noLeave, 1, "https://a.com/", "n=1", &plain},
		{"a top, near, another path", noLeave, 1, "https://a.com/q", "n=1; Path=/p", plainOf(func(c *impl.Cookie) { c.Path = "/p" })},
		{"a top, near, with a Domain", noLeave, 1, "https://x.a.com/", "n=1; Domain=a.com", plainOf(func(c *impl.Cookie) { c.Alone = false })},
		{"a top, near, for a while", noLeave, 1, "https://a.com/", "n=1; Max-Age=5", plainOf(func(c *impl.Cookie) { c.Until = 15 })},
		{"a top, near, in the part", noLeave, 1, "https://a.com/", part, plainOf(func(c *impl.Cookie) { c.Secure, c.Part = true, "https://a.com" })},
		{"a top, not near", noLeave, 1, "https://b.com/", none, nil},
		{"a top, not near, in the part", noLeave, 1, "https://b.com/", part, plainOf(atBPart)},
		{"a top, not near, the other one has leave", leaveToB, 1, "https://b.com/", none, nil},
		{"a top by http, near", noLeave, 7, "http://a.com/", "n=1", &plain},
		{"a top, its host by http", noLeave, 1, "http://a.com/", "n=1", nil},
		{"of the top's site", noLeave, 4, "https://a.com/", "n=1", &plain},
		{"a stranger without leave", noLeave, 2, "https://b.com/", none, nil},
		{"a stranger without leave, Lax", noLeave, 2, "https://b.com/", "n=1", nil},
		{"a stranger without leave, in the part", noLeave, 2, "https://b.com/", part, plainOf(atBPart)},
		{"a stranger with a Flag alone", flag, 2, "https://b.com/", none, nil},
		{"a stranger with a Grant alone", grant, 2, "https://b.com/", none, nil},
		{"a stranger with a Grant that is old", old, 2, "https://b.com/", none, nil},
		{"a stranger with both", leaveToB, 2, "https://b.com/", none, plainOf(atBNone)},
		{"a stranger with both, Lax", leaveToB, 2, "https://b.com/", "n=1", plainOf(atB)},
		{"a stranger with both, in the part", leaveToB, 2, "https://b.com/", part, plainOf(atBPart)},
		{"a stranger with both, another host", leaveToB, 2, "https://x.b.com/", none, plainOf(func(c *impl.Cookie) { atBNone(c); c.Host = "x.b.com" })},
		{"a stranger with both, by http", leaveToB, 2, "http://b.com/", "n=1", nil},
		{"a stranger with both, another site", leaveToB, 2, "https://c.com/", none, nil},
		{"a stranger with both, the top's site", leaveToB, 2, "https://a.com/", "n=1", nil},
		{"a Sandbox without leave", noLeave, 6, "https://b.com/", none, nil},
		{"a Sandbox with both", leaveToB, 6, "https://b.com/", none, plainOf(atBNone)},
		{"of the top's site within another's", noLeave, 5, "https://a.com/", "n=1", nil},
		{"in a page by http, in the part", noLeave, 8, "https://b.com/", part, plainOf(func(c *impl.Cookie) { atBPart(c); c.Part = "http://a.com" })},
		{"in the part, not Secure", noLeave, 1, "https://a.com/", "n=1; Partitioned", nil},
		{"in the part, by http", noLeave, 7, "http://a.com/", part, nil},
		{"Secure by http", noLeave, 7, "http://a.com/", "n=1; Secure", nil},
		{"of strangers, not Secure", noLeave, 1, "https://a.com/", "n=1; SameSite=None", nil},
		{"a Domain of another", noLeave, 1, "https://a.com/", "n=1; Domain=b.com", nil},
		{"a Domain that is a suffix", noLeave, 1, "https://a.com/", "n=1; Domain=com", nil},
	}
	for _, c := range cases {
		for _, clear := range []string{"", "x", `"cache"`} {
			want := wrongOut(impl.ErrDenied)
			if c.want != nil {
				want = impl.WorldOut{World: houseWith(append(slices.Clone(c.turns), putInJar(*c.want))...)}
			}
			w := houseWith(c.turns...)
			got := impl.Answer(w, c.id, c.url, c.set, clear)
			sameWorldOut(t, c.what, got, want)
			sameWorldOut(t, c.what+": by form", answerByForm(worldArgs{w: w, id: c.id, url: c.url, set: c.set, clear: clear}), want)
			same(t, c.what+": right", impl.WorldRight(got.World), true)
		}
	}
}

func TestAnswersThatTakeAway(t *testing.T) {
	gone := func(at int) func(w *impl.World) {
		return func(w *impl.World) { w.Jar = slices.Delete(slices.Clone(w.Jar), at, at+1) }
	}
	ageless := impl.Answer(houseWorld(), 1, "https://a.com/", "lax=; Domain=a.com; Max-Age=0", "")
	sameWorldOut(t, "an Age of 0", ageless, impl.WorldOut{World: houseWith(gone(0))})
	again := impl.Answer(houseWorld(), 1, "https://a.com/", "lax=new; Domain=a.com", "")
	sameWorldOut(t, "of one place", again, impl.WorldOut{World: houseWith(gone(0), func(w *impl.World) {
		w.Jar = append(w.Jar, impl.Cookie{Name: "lax", Value: "new", Host: "a.com", Path: "/", Made: 9})
	})})
	full := houseWith(func(w *impl.World) { w.Jar = manyCookies(impl.MaxJar) })
	more := impl.Answer(full, 1, "https://a.com/", "n=1", "")
	want := append(manyCookies(impl.MaxJar)[1:], impl.Cookie{Name: "n", Value: "1", Host: "a.com", Alone: true, Path: "/", Made: 13})
	sameWorldOut(t, "MaxJar", more, impl.WorldOut{World: houseWith(func(w *impl.World) { w.Jar = want })})
}

// houseBut: without the cookies at these places of its jar, and those rooms.
func houseBut(turns []func(w *impl.World), cookies []int, rooms ...int) impl.World {
	w := houseWith(turns...)
	for i := len(cookies) - 1; i >= 0; i-- {
		w.Jar = slices.Delete(w.Jar, cookies[i], cookies[i]+1)
	}
	for i := len(rooms) - 1; i >= 0; i-- {
		w.Area = slices.Delete(w.Area, rooms[i], rooms[i]+1)
	}
	return w
}

func TestAnswersThatClear(t *testing.T) {
	flag := []func(w *impl.World){flagged(2)}
	grant := []func(w *impl.World){granted("https://a.com https://b.com 11")}
	cases := []struct {
		what    string
		turns   []func(w *impl.World)
		id      int64
		url     string
		cookies []int
		rooms   []int
	}{
		{"a top, near", noLeave, 1, "https://a.com/", []int{0, 7}, []int{0}},
		{"a top, near, another path", noLeave, 1, "https://a.com/p", []int{0, 7}, []int{0}},
		{"a top, near, another host", noLeave, 1, "https://x.a.com/", []int{0, 7}, nil},
		{"a top, near, another port", noLeave, 1, "https://a.com:8443/", []int{0, 7}, nil},
		{"a top, its host by http", noLeave, 1, "http://a.com/", nil, nil},
		{"a top, another site", noLeave, 1, "https://b.com/", []int{3}, []int{3}},
		{"a top, another site that has leave", leaveToB, 1, "https://b.com/", []int{3}, []int{3}},
		{"a top by http, its url", noLeave, 7, "http://a.com/", nil, nil},
		{"a top by http, its host by https", noLeave, 7, "https://a.com/", nil, nil},
		{"a top by http, another site", noLeave, 7, "https://b.com/", []int{4}, []int{2}},
		{"a stranger in a page by http", noLeave, 8, "https://b.com/", []int{4}, []int{2}},
		{"of the top's site", noLeave, 4, "https://a.com/", []int{0, 7}, []int{0}},
		{"a stranger without leave", noLeave, 2, "https://b.com/", []int{3}, []int{3}},
		{"a stranger with a Flag alone", flag, 2, "https://b.com/", []int{3}, []int{3}},
		{"a stranger with a Grant alone", grant, 2, "https://b.com/", []int{3}, []int{3}},
		{"a stranger with both", leaveToB, 2, "https://b.com/", []int{1, 2, 3}, []int{3}},
		{"a stranger with both, another host", leaveToB, 2, "https://x.b.com/", []int{1, 2, 3}, nil},
		{"a stranger with both, by http", leaveToB, 2, "http://b.com/", nil, nil},
		{"a stranger with both, another site", leaveToB, 2, "https://c.com/", []int{6}, nil},
		{"a stranger with both, the top's site", leaveToB, 2, "https://a.com/", []int{7}, []int{1}},
		{"a Sandbox", noLeave, 6, "https://b.com/", []int{3}, []int{3}},
		{"a Sandbox with both", leaveToB, 6, "https://b.com/", []int{1, 2, 3}, []int{3}},
		{"of the top's site within another's", noLeave, 5, "https://a.com/", []int{7}, []int{1}},
		{"a stranger by http", noLeave, 9, "http://b.com/", nil, nil},
		{"a stranger by http, by https", noLeave, 9, "https://b.com/", []int{3}, []int{3}},
		{"of which there is none", noLeave, 1, "https://d.com/", nil, nil},
		{"a host without a Domain", noLeave, 1, "https://com/", nil, nil},
	}
	// Of each text that may be told: are cookies cleared, and is the room?
	clears := []struct {
		text           string
		cookies, rooms bool
	}{
		{"", false, false}, {`"cache"`, false, false}, {`"cookies"`, true, false}, {`"storage"`, false, true}, {`"cookies", "storage"`, true, true},
		{`"cache","cookies"`, true, false}, {`"storage" , "cache"`, false, true}, {`"*"`, true, true}, {`x, "cookies", y`, true, false}, {"cookies", false, false},
		{"*", false, false}, {`"Storage"`, false, false}, {`"x"`, false, false}, {" ", false, false}, {strings.Repeat(",", impl.MaxBytes), false, false},
		{`"*"` + strings.Repeat(" ", impl.MaxBytes-3), true, true},
	}
	for _, c := range cases {
		for _, clear := range clears {
			var cookies, rooms []int
			if clear.cookies {
				cookies = c.cookies
			}
			if clear.rooms {
				rooms = c.rooms
			}
			w := houseWith(c.turns...)
			want := impl.WorldOut{World: houseBut(c.turns, cookies, rooms...)}
			what := c.what + ": " + shown(clear.text)
			got := impl.Answer(w, c.id, c.url, "", clear.text)
			sameWorldOut(t, what, got, want)
			sameWorldOut(t, what+", by form", answerByForm(worldArgs{w: w, id: c.id, url: c.url, clear: clear.text}), want)
			same(t, what+": right", impl.WorldRight(got.World), true)
		}
	}
}

// Of a host without a Domain no cookies are cleared, but its room is.
func TestAnswersOfNoDomain(t *testing.T) {
	w := impl.World{Rules: []string{"com"}, Frames: framesOf("1 0 https://com/"), Area: entriesOf("https://com^https://com n v")}
	w = impl.Answer(w, 1, "https://com/", "n=1", "").World
	same(t, "it is set", len(w.Jar), 1)
	got := impl.Answer(w, 1, "https://com/", "", `"*"`)
	w.Area = nil
	sameWorldOut(t, "cleared", got, impl.WorldOut{World: w})
}

// What is set goes ahead of what is cleared.
func TestAnswersThatDoBoth(t *testing.T) {
	got := impl.Answer(houseWorld(), 1, "https://a.com/", "n=1", `"*"`)
	sameWorldOut(t, "near", got, impl.WorldOut{World: houseBut(noLeave, []int{0, 7}, 0)})
	got = impl.Answer(houseWorld(), 2, "https://b.com/", "n=1; Secure; Partitioned", `"cookies"`)
	sameWorldOut(t, "a stranger", got, impl.WorldOut{World: houseBut(noLeave, []int{3})})
	kept := append(slices.Clone(noLeave), putInJar(impl.Cookie{Name: "n", Value: "1", Host: "a.com", Alone: true, Path: "/"}))
	got = impl.Answer(houseWorld(), 1, "https://a.com/", "n=1", `"storage"`)
	sameWorldOut(t, "the room alone", got, impl.WorldOut{World: houseBut(kept, nil, 0)})
	got = impl.Answer(houseWorld(), 7, "http://a.com/", "n=1", `"*"`)
	sameWorldOut(t, "by http", got, impl.WorldOut{World: houseWith(kept...)})
	got = impl.Answer(houseWorld(), 1, "https://a.com/", "n=1; SameSite=None", `"*"`)
	sameWorldOut(t, "what is not set clears nothing", got, wrongOut(impl.ErrDenied))
	sameWorldOut(t, "neither", impl.Answer(houseWorld(), 1, "https://a.com/", "", ""), impl.WorldOut{World: houseWorld()})
}

func TestAnswerFaultsInTheirOrder(t *testing.T) {
	begin := worldArgs{w: houseWorld(), id: 1, url: "https://a.com/", set: "n=1", clear: `"*"`}
	tooMuch := slices.Concat(tooLongUrls, []worldFault{
		{"a set too long", impl.ErrSize, "set", func(a *worldArgs) { a.set = tooLong }},
		{"a clear too long", impl.ErrSize, "clear", func(a *worldArgs) { a.clear = tooLong }},
		{"a clear too long that tells all", impl.ErrSize, "clear", func(a *worldArgs) { a.clear = `"*"` + strings.Repeat(" ", impl.MaxBytes) }},
	})
	wrongSets := []worldFault{
		{"a set without a name", impl.ErrSyntax, "set", func(a *worldArgs) { a.set = "=1" }},
		{"a set that is a blank", impl.ErrSyntax, "set", func(a *worldArgs) { a.set = " " }},
		{"a set out of order", impl.ErrSyntax, "set", func(a *worldArgs) { a.set = "n=1; SameSite=None; Secure" }},
		{"a set of MaxBytes bytes", impl.ErrSyntax, "set", func(a *worldArgs) { a.set = tooLong[1:] }},
		{"not near", impl.ErrDenied, "url", func(a *worldArgs) { a.url = "https://b.com/" }},
		{"a stranger", impl.ErrDenied, "id", func(a *worldArgs) { a.id = 2 }},
		{"a set that u may not", impl.ErrDenied, "set", func(a *worldArgs) { a.set = "n=1; Domain=b.com" }},
		{"an ended jar", impl.ErrFull, "jar", func(a *worldArgs) { a.w.Jar = endedJar() }},
	}
	faultsInOrder(t, begin, answerCall, tooMuch, wrongParts, frameOfZero, noFrames, wrongUrlFaults, wrongSets)
	for _, text := range wrongSetTexts {
		code := int64(impl.ErrSyntax)
		if len(text) > impl.MaxBytes {
			code = impl.ErrSize
		}
		if text != "" {
			sameWorldOut(t, shown(text), impl.Answer(houseWorld(), 1, "https://a.com/", text, `"*"`), wrongOut(code))
		}
	}
	a := begin
	a.id, a.set = 2, "n=1; Secure; Partitioned"
	a.w.Jar = endedJar()
	sameWorldOut(t, "in the part, an ended jar", answerCall(a), wrongOut(impl.ErrFull))
	a.set = ""
	same(t, "an ended jar, nothing is set", answerCall(a).Code, impl.OK)
}

// Promise 21: behind an answer by https that clears all, nothing is in the room
// of a frame of that origin any more.
func TestAnswersEmptyTheRoom(t *testing.T) {
	for id, key := range houseKeys {
		for _, clear := range []string{`"*"`, `"storage"`, `"cookies", "storage"`} {
			w := houseWorld()
			f := w.Frames[placeOfId(w.Frames, id)]
			for _, name := range []string{"n", "m"} {
				if kept := impl.Keep(w, id, name, "v"); kept.Code == impl.OK {
					w = kept.World
				}
			}
			what := fmt.Sprint(id, ": ", clear)
			got := impl.Answer(w, id, impl.UrlText(f.Url), "", clear)
			empty := f.Url.Scheme == "https" && !f.Sandbox
			same(t, what, len(impl.AreaNames(got.World.Area, key)) == 0, empty)
			for _, name := range []string{"n", "m"} {
				same(t, what+": "+name, impl.Look(got.World, id, name).Code == impl.ErrNone, empty)
			}
			// Another one's room is emptied only if it is of that origin.
			for other, otherKey := range houseKeys {
				origin := impl.OriginOf(f.Url)
				if o := impl.FrameOrigin(w.Frames, other); !impl.OriginSame(o, origin) {
					sameList(t, fmt.Sprint(what, ": the room of ", other), impl.AreaNames(got.World.Area, otherKey), impl.AreaNames(w.Area, otherKey))
				}
			}
		}
	}
}
