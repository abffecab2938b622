package tests

import (
	"fmt"
	"slices"
	"strings"
	"testing"

	"loop.example/g00551/impl"
)

// What the calls of chapter 11 have in common: their arguments, a plain reading
// of the document for each, and in which order faults are named.

// worldArgs: what any of the calls is given; id is the parent of Open, too.
type worldArgs struct {
	w       impl.World
	id      int64
	url     string
	sandbox bool
	minutes int64
	yes     bool
	name    string
	value   string
	set     string
	clear   string
}

// worldCalls: each call, and the same by form.
var worldCalls = []struct {
	what string
	call func(a worldArgs) impl.WorldOut
	form func(a worldArgs) impl.WorldOut
}{
	{"Open", openCall, openByForm},
	{"Go", goCall, goByForm},
	{"Pass", passCall, passByForm},
	{"Touch", touchCall, touchByForm},
	{"AskFor", askCall, askForByForm},
	{"Keep", keepCall, keepByForm},
	{"Look", lookCall, lookByForm},
	{"Fetch", fetchCall, fetchByForm},
	{"Answer", answerCall, answerByForm},
}

func openCall(a worldArgs) impl.WorldOut   { return impl.Open(a.w, a.id, a.url, a.sandbox) }
func goCall(a worldArgs) impl.WorldOut     { return impl.Go(a.w, a.id, a.url) }
func passCall(a worldArgs) impl.WorldOut   { return impl.Pass(a.w, a.minutes) }
func touchCall(a worldArgs) impl.WorldOut  { return impl.Touch(a.w, a.id) }
func askCall(a worldArgs) impl.WorldOut    { return impl.AskFor(a.w, a.id, a.yes) }
func keepCall(a worldArgs) impl.WorldOut   { return impl.Keep(a.w, a.id, a.name, a.value) }
func lookCall(a worldArgs) impl.WorldOut   { return impl.Look(a.w, a.id, a.name) }
func fetchCall(a worldArgs) impl.WorldOut  { return impl.Fetch(a.w, a.id, a.url) }
func answerCall(a worldArgs) impl.WorldOut { return impl.Answer(a.w, a.id, a.url, a.set, a.clear) }

// faultByForm: what all calls but Pass refuse, ahead of what is their own.
func faultByForm(w impl.World, there bool, texts ...string) int64 {
	for _, text := range texts {
		if len(text) > 8000 {
			return impl.ErrSize
		}
	}
	if !worldByForm(w) {
		return impl.ErrForm
	}
	if !there {
		return impl.ErrNone
	}
	return impl.OK
}

func isThere(a worldArgs) bool {
	return placeOfId(a.w.Frames, a.id) >= 0
}

func wrongOut(code int64) impl.WorldOut {
	return impl.WorldOut{Code: code}
}

func openByForm(a worldArgs) impl.WorldOut {
	if code := faultByForm(a.w, a.id == 0 || isThere(a), a.url); code != impl.OK {
		return wrongOut(code)
	}
	u := urlByForm(a.url)
	if u.Code != impl.OK {
		return wrongOut(impl.ErrSyntax)
	}
	return framesOut(a.w, frameOpenByForm(a.w.Frames, a.id, u.Url, a.sandbox))
}

func goByForm(a worldArgs) impl.WorldOut {
	if code := faultByForm(a.w, isThere(a), a.url); code != impl.OK {
		return wrongOut(code)
	}
	u := urlByForm(a.url)
	if u.Code != impl.OK {
		return wrongOut(impl.ErrSyntax)
	}
	return framesOut(a.w, frameGoByForm(a.w.Frames, a.w.Rules, a.id, u.Url))
}

func framesOut(w impl.World, out impl.FramesOut) impl.WorldOut {
	if out.Code != impl.OK {
		return wrongOut(out.Code)
	}
	w.Frames = out.Frames
	return impl.WorldOut{World: w, Id: out.Id}
}

func passByForm(a worldArgs) impl.WorldOut {
	if code := faultByForm(a.w, true); code != impl.OK {
		return wrongOut(code)
	}
	if a.minutes < 0 || a.minutes > 1000 || a.w.Now+a.minutes > 1000000 {
		return wrongOut(impl.ErrRange)
	}
	a.w.Now += a.minutes
	return impl.WorldOut{World: a.w}
}

func touchByForm(a worldArgs) impl.WorldOut {
	if code := faultByForm(a.w, isThere(a)); code != impl.OK {
		return wrongOut(code)
	}
	a.w.Frames = framesWith(a.w.Frames, a.id, func(f *impl.Frame) {
		f.Touch = a.w.Now
		if a.w.Now == 0 {
			f.Touch = 1
		}
	})
	return impl.WorldOut{World: a.w}
}

func siteOfFrame(w impl.World, id int64) string {
	return impl.SiteOf(w.Rules, w.Frames[placeOfId(w.Frames, id)].Url)
}

func siteOfTop(w impl.World, id int64) string {
	return siteOfFrame(w, topByForm(w.Frames, id))
}

func relatedByForm(w impl.World, a string, b string) bool {
	if a == b {
		return strings.HasPrefix(a, "https://") && domainByForm(w.Rules, a[8:])
	}
	for _, s := range w.Sets {
		of := func(site string) bool {
			return strings.HasPrefix(site, "https://") && slices.Contains(append([]string{s.Primary}, s.Members...), site[8:])
		}
		if of(a) && of(b) {
			return true
		}
	}
	return false
}

func askForByForm(a worldArgs) impl.WorldOut {
	if code := faultByForm(a.w, isThere(a)); code != impl.OK {
		return wrongOut(code)
	}
	f := a.w.Frames[placeOfId(a.w.Frames, a.id)]
	top, site := siteOfTop(a.w, a.id), siteOfFrame(a.w, a.id)
	out := grantAskByForm(a.w.Grants, impl.Ask{Top: top, Site: site, Touched: f.Touch > 0 && a.w.Now < f.Touch+6, Sandbox: f.Sandbox, Related: relatedByForm(a.w, top, site), Yes: a.yes}, a.w.Now)
	if out.Code != impl.OK && (out.Code != impl.ErrDenied || !out.Used) {
		return wrongOut(out.Code)
	}
	a.w.Grants = out.Grants
	a.w.Frames = framesWith(a.w.Frames, a.id, func(f *impl.Frame) {
		if out.Used {
			f.Touch = 0
		}
		if out.Code == impl.OK {
			f.Flag = true
		}
	})
	return impl.WorldOut{World: a.w, Code: out.Code}
}

func keepByForm(a worldArgs) impl.WorldOut {
	if code := faultByForm(a.w, isThere(a), a.name, a.value); code != impl.OK {
		return wrongOut(code)
	}
	out := areaPutByForm(a.w.Area, keyByForm(a.w.Frames, a.w.Rules, a.id), a.name, a.value)
	if out.Code != impl.OK {
		return wrongOut(out.Code)
	}
	a.w.Area = out.Area
	return impl.WorldOut{World: a.w}
}

func lookByForm(a worldArgs) impl.WorldOut {
	if code := faultByForm(a.w, isThere(a), a.name); code != impl.OK {
		return wrongOut(code)
	}
	if !areaNameForm.MatchString(a.name) {
		return wrongOut(impl.ErrForm)
	}
	for _, e := range a.w.Area {
		if e.Key == keyByForm(a.w.Frames, a.w.Rules, a.id) && e.Name == a.name {
			return impl.WorldOut{World: a.w, Text: e.Value}
		}
	}
	return wrongOut(impl.ErrNone)
}

func liveByForm(w impl.World, top string, site string) bool {
	return slices.ContainsFunc(w.Grants, func(g impl.Grant) bool { return g.Top == top && g.Site == site && g.Until > w.Now })
}

// asksFor: what is asked for from within a frame at a url, and whose all is.
func asksFor(w impl.World, id int64, u impl.Url) (top string, site string, near bool, wide bool) {
	top, site = siteOfTop(w, id), impl.SiteOf(w.Rules, u)
	stranger := thirdByForm(w.Frames, w.Rules, id)
	own := siteOfFrame(w, id)
	near = !stranger && site == top
	wide = stranger && w.Frames[placeOfId(w.Frames, id)].Flag && liveByForm(w, top, own) && site == own
	return top, site, near, wide
}

func fetchByForm(a worldArgs) impl.WorldOut {
	if code := faultByForm(a.w, isThere(a), a.url); code != impl.OK {
		return wrongOut(code)
	}
	u := urlByForm(a.url)
	if u.Code != impl.OK {
		return wrongOut(impl.ErrSyntax)
	}
	top, site, near, wide := asksFor(a.w, a.id, u.Url)
	out := impl.WorldOut{World: a.w, Text: impl.PairsText(forByForm(a.w.Jar, u.Url, top, wide, near, a.w.Now))}
	switch {
	case near:
		out.Says = 0
	case !liveByForm(a.w, top, site):
		out.Says = 1
	case wide:
		out.Says = 3
	default:
		out.Says = 2
	}
	return out
}

func answerByForm(a worldArgs) impl.WorldOut {
	if code := faultByForm(a.w, isThere(a), a.url, a.set, a.clear); code != impl.OK {
		return wrongOut(code)
	}
	u := urlByForm(a.url).Url
	if urlByForm(a.url).Code != impl.OK {
		return wrongOut(impl.ErrSyntax)
	}
	top, site, near, wide := asksFor(a.w, a.id, u)
	if a.set != "" {
		read := setByForm(a.set)
		if read.Code != impl.OK {
			return wrongOut(impl.ErrSyntax)
		}
		if !near && !wide && !read.Set.Parted {
			return wrongOut(impl.ErrDenied)
		}
		put := putByForm(a.w.Jar, a.w.Rules, read.Set, u, top, a.w.Now)
		if put.Code != impl.OK {
			return wrongOut(put.Code)
		}
		a.w.Jar = put.Jar
	}
	kinds := impl.ClearRead(a.clear)
	if domain := impl.SuffixOf(a.w.Rules, u.Host).Domain; u.Scheme == "https" && kinds&2 > 0 && domain != "" {
		a.w.Jar = clearByForm(a.w.Jar, a.w.Rules, domain, top, near || wide)
	}
	if u.Scheme == "https" && kinds&4 > 0 {
		key := impl.OriginText(impl.OriginOf(u)) + "^" + top
		if thirdByForm(a.w.Frames, a.w.Rules, a.id) || site != top {
			key += "!"
		}
		a.w.Area = slices.DeleteFunc(slices.Clone(a.w.Area), func(e impl.Entry) bool { return e.Key == key })
	}
	return impl.WorldOut{World: a.w}
}

// worldFault: what a call refuses; of is what it turns.
type worldFault struct {
	what string
	code int64
	of   string
	turn func(a *worldArgs)
}

// wrongParts: a world that is not right, part by part.
var wrongParts = []worldFault{
	{"rules that are not right", impl.ErrForm, "rules", func(a *worldArgs) { a.w.Rules = []string{"b", "a"} }},
	{"rules that are too many for a list", impl.ErrForm, "rules", func(a *worldArgs) { a.w.Rules = manyRules(impl.MaxList + 1) }},
	{"sets that are not right", impl.ErrForm, "sets", func(a *worldArgs) { a.w.Sets = setsOf("com:b.com") }},
	{"frames that are not right", impl.ErrForm, "frames", func(a *worldArgs) { a.w.Frames = append(framesOf(houseFrames...), framesOf("9 0 https://a.com/")...) }},
	{"frames that are too many for a list", impl.ErrForm, "frames", func(a *worldArgs) { a.w.Frames = manyFrames(impl.MaxList + 1) }},
	{"a jar that is not right", impl.ErrForm, "jar", func(a *worldArgs) { a.w.Jar = append(slices.Clone(houseCookies), houseCookies[0]) }},
	{"a jar of too much for a list", impl.ErrForm, "jar", func(a *worldArgs) { a.w.Jar = manyCookies(impl.MaxList + 1) }},
	{"an area that is not right", impl.ErrForm, "area", func(a *worldArgs) { a.w.Area = entriesOf("b n 1", "a n 1") }},
	{"an area with a text too long", impl.ErrForm, "area", func(a *worldArgs) { a.w.Area = []impl.Entry{{Key: "k", Name: "n", Value: tooLong}} }},
	{"grants that are not right", impl.ErrForm, "grants", func(a *worldArgs) { a.w.Grants = []impl.Grant{aGrant, aGrant} }},
	{"a now below 0", impl.ErrForm, "now", func(a *worldArgs) { a.w.Now = -1 }},
	{"a now above MaxTime", impl.ErrForm, "now", func(a *worldArgs) { a.w.Now = impl.MaxTime + 1 }},
}

// noFrames: of no frame that is there.
var noFrames = []worldFault{
	{"no such frame", impl.ErrNone, "id", func(a *worldArgs) { a.id = 10 }},
	{"a frame below 0", impl.ErrNone, "id", func(a *worldArgs) { a.id = -2 }},
	{"a frame above MaxTime", impl.ErrNone, "id", func(a *worldArgs) { a.id = impl.MaxTime + 1 }},
	{"a frame that is as far above as goes round", impl.ErrNone, "id", func(a *worldArgs) { a.id = 2 + 1<<32 }},
}

// frameOfZero: of all but Open.
var frameOfZero = []worldFault{{"a frame of 0", impl.ErrNone, "id", func(a *worldArgs) { a.id = 0 }}}

var tooLongUrls = []worldFault{
	{"a url too long", impl.ErrSize, "url", func(a *worldArgs) { a.url = "https://a.com/" + tooLong }},
	{"nothing but a url too long", impl.ErrSize, "url", func(a *worldArgs) { a.url = tooLong }},
}

var wrongUrlFaults = []worldFault{
	{"no url", impl.ErrSyntax, "url", func(a *worldArgs) { a.url = "" }},
	{"a url without a scheme", impl.ErrSyntax, "url", func(a *worldArgs) { a.url = "b.com" }},
	{"a url with its port", impl.ErrSyntax, "url", func(a *worldArgs) { a.url = "https://b.com:443/" }},
	{"a url of MaxBytes bytes", impl.ErrSyntax, "url", func(a *worldArgs) { a.url = "https://b.com/" + strings.Repeat("p", impl.MaxBytes-14) }},
}

// faultsInOrder: each fault by itself, and two at once: the first one is told,
// and nothing else beside it.
func faultsInOrder(t *testing.T, begin worldArgs, call func(a worldArgs) impl.WorldOut, lists ...[]worldFault) {
	t.Helper()
	same(t, "no fault", call(begin).Code, impl.OK)
	faults := slices.Concat(lists...)
	for i, first := range faults {
		a := begin
		first.turn(&a)
		sameWorldOut(t, first.what, call(a), wrongOut(first.code))
		for _, second := range faults[i+1:] {
			of := func(word string) bool { return slices.Contains(strings.Fields(second.of), word) }
			if slices.ContainsFunc(strings.Fields(first.of), of) {
				// They turn the same thing: the first one would be gone.
				continue
			}
			b := a
			second.turn(&b)
			sameWorldOut(t, first.what+", "+second.what, call(b), wrongOut(first.code))
		}
	}
}

// Of a world that is not right no call tells anything.
func TestWorldCallsOfWrongWorlds(t *testing.T) {
	right := worldArgs{id: 2, url: "https://b.com/", minutes: 1, name: "n", value: "v", clear: `"*"`}
	for _, c := range worldCalls {
		for _, wrong := range wrongWorlds() {
			a := right
			a.w = wrong.w
			sameWorldOut(t, c.what+": "+wrong.what, c.call(a), wrongOut(impl.ErrForm))
		}
		a := right
		a.w = houseWith(touchedAt(2, 10))
		same(t, c.what+": right", c.call(a).Code, impl.OK)
		for _, id := range append([]int64{10, impl.MaxTime}, noIds...) {
			a.id = id
			want := int64(impl.ErrNone)
			if c.what == "Pass" || c.what == "Open" && id == 0 {
				want = impl.OK
			}
			same(t, fmt.Sprint(c.what, ": of ", id), c.call(a).Code, want)
		}
	}
}
