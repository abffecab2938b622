package tests

import (
	"fmt"
	"strings"
	"testing"

	"loop.example/g00551/impl"
)

// What is opened, and what goes elsewhere.

func TestOpens(t *testing.T) {
	cases := []struct {
		what    string
		parent  int64
		url     string
		sandbox bool
		want    string
	}{
		{"a top", 0, "https://b.com/", false, "10 0 https://b.com/"},
		{"a top by http", 0, "http://x.b.com:8080/p/q", false, "10 0 http://x.b.com:8080/p/q"},
		{"in a page", 1, "https://b.com/", false, "10 1 https://b.com/"},
		{"in a page, a Sandbox", 1, "https://b.com/", true, "10 1 https://b.com/ box"},
		{"in a page by http", 7, "https://a.com/", false, "10 7 https://a.com/"},
		{"in a stranger", 2, "https://a.com/p", false, "10 2 https://a.com/p"},
		{"in a Sandbox", 6, "https://b.com/", false, "10 6 https://b.com/"},
		{"in a Sandbox, one", 6, "https://b.com/", true, "10 6 https://b.com/ box"},
		{"in the last one", 9, "https://b.com/", false, "10 9 https://b.com/"},
	}
	for _, c := range cases {
		w := houseWith(touchedAt(1, 5), flagged(2))
		want := houseWith(touchedAt(1, 5), flagged(2), func(w *impl.World) { w.Frames = append(w.Frames, framesOf(c.want)...) })
		got := impl.Open(w, c.parent, c.url, c.sandbox)
		sameWorldOut(t, c.what, got, impl.WorldOut{World: want, Id: 10})
		same(t, c.what+": right", impl.WorldRight(got.World), true)
		sameWorldOut(t, c.what+": by form", openByForm(worldArgs{w: w, id: c.parent, url: c.url, sandbox: c.sandbox}), got)
	}
	first := impl.Open(impl.World{}, 0, "https://a.com/", false)
	sameWorldOut(t, "in a world of nothing", first, impl.WorldOut{World: impl.World{Frames: framesOf("1 0 https://a.com/")}, Id: 1})
	second := impl.Open(first.World, 1, "https://b.com/", true)
	sameWorldOut(t, "behind it", second, impl.WorldOut{World: impl.World{Frames: framesOf("1 0 https://a.com/", "2 1 https://b.com/ box")}, Id: 2})
	high := impl.World{Frames: framesOf("999999 0 https://a.com/")}
	sameWorldOut(t, "the last Id", impl.Open(high, 999999, "https://b.com/", false), impl.WorldOut{World: impl.World{Frames: framesOf("999999 0 https://a.com/", "1000000 999999 https://b.com/")}, Id: 1000000})
}

func TestGoes(t *testing.T) {
	// All of it is touched and has a Flag.
	var all []func(w *impl.World)
	for id := range int64(9) {
		all = append(all, touchedAt(id+1, 5), flagged(id+1))
	}
	cases := []struct {
		what string
		id   int64
		url  string
		flag bool
		shut []int64
	}{
		{"a top elsewhere", 1, "https://c.com/", false, []int64{2, 3, 4, 5, 6, 9}},
		{"a top within its origin", 1, "https://a.com/q", true, []int64{2, 3, 4, 5, 6, 9}},
		{"a top to another host of its site", 1, "https://x.a.com/", false, []int64{2, 3, 4, 5, 6, 9}},
		{"a top to http", 1, "http://a.com/", false, []int64{2, 3, 4, 5, 6, 9}},
		{"the other top", 7, "https://a.com/", false, []int64{8}},
		{"a stranger elsewhere", 2, "https://c.com/", false, []int64{5}},
		{"a stranger within its origin", 2, "https://b.com/q", true, []int64{5}},
		{"a stranger to its own url", 2, "https://b.com/", true, []int64{5}},
		{"a stranger to the top's site", 2, "https://a.com/", false, []int64{5}},
		{"with nothing within", 3, "https://c.com:8443/", false, nil},
		{"a Sandbox within its origin", 6, "https://b.com/q", true, nil},
		{"a Sandbox elsewhere", 6, "https://c.com/", false, nil},
		{"the last one", 9, "https://b.com/", false, nil},
	}
	for _, c := range cases {
		w := houseWith(all...)
		want := houseWith(append(all, func(w *impl.World) {
			w.Frames = framesBut(framesWith(w.Frames, c.id, func(f *impl.Frame) { f.Url, f.Flag, f.Touch = pageOf(c.url), c.flag, 0 }), c.shut...)
		})...)
		got := impl.Go(w, c.id, c.url)
		sameWorldOut(t, c.what, got, impl.WorldOut{World: want, Id: c.id})
		same(t, c.what+": right", impl.WorldRight(got.World), true)
		sameWorldOut(t, c.what+": by form", goByForm(worldArgs{w: w, id: c.id, url: c.url}), got)
	}
}

// By the world's own Rules no frame is refused, whatever they are.
func TestGoesByRules(t *testing.T) {
	for _, rules := range [][]string{nil, {"com"}, {"a.com"}, manyRules(impl.MaxRules)} {
		w := houseWith(func(w *impl.World) { w.Rules, w.Sets = rules, nil })
		got := impl.Go(w, 3, "https://b.com/")
		w.Frames = framesWith(w.Frames, 3, func(f *impl.Frame) { f.Url = pageOf("https://b.com/") })
		sameWorldOut(t, shown(rules), got, impl.WorldOut{World: w, Id: 3})
	}
}

func TestOpensAndGoesByUrl(t *testing.T) {
	top := impl.World{Frames: framesOf("1 0 https://a.com/")}
	for _, c := range urls {
		want := impl.World{Frames: []impl.Frame{{Id: 1, Url: c.url}}}
		sameWorldOut(t, c.text+": open", impl.Open(impl.World{}, 0, c.text, false), impl.WorldOut{World: want, Id: 1})
		sameWorldOut(t, c.text+": go", impl.Go(top, 1, c.text), impl.WorldOut{World: want, Id: 1})
	}
	for _, text := range append([]string{strings.Repeat("a", impl.MaxBytes), ""}, wrongUrlTexts...) {
		code := int64(impl.ErrSyntax)
		if len(text) > impl.MaxBytes {
			code = impl.ErrSize
		}
		sameWorldOut(t, shown(text)+": open", impl.Open(top, 0, text, false), wrongOut(code))
		sameWorldOut(t, shown(text)+": open within", impl.Open(top, 1, text, true), wrongOut(code))
		sameWorldOut(t, shown(text)+": go", impl.Go(top, 1, text), wrongOut(code))
	}
	for _, size := range []int{impl.MaxBytes + 1, impl.MaxBytes * 2} {
		text := "https://a.com/" + strings.Repeat("p", size-14)
		sameWorldOut(t, fmt.Sprint(size, " bytes: open"), impl.Open(top, 0, text, false), wrongOut(impl.ErrSize))
		sameWorldOut(t, fmt.Sprint(size, " bytes: go"), impl.Go(top, 1, text), wrongOut(impl.ErrSize))
	}
}

func TestOpensByCount(t *testing.T) {
	for count := range impl.MaxFrames + 1 {
		w := impl.World{Frames: deepFrames(count)}
		for parent := range int64(count + 1) {
			what := fmt.Sprint("into ", count, ", in ", parent)
			sameWorldOut(t, what, impl.Open(w, parent, "https://b.com/", false), openByForm(worldArgs{w: w, id: parent, url: "https://b.com/"}))
			same(t, what, impl.Open(w, parent, "https://b.com/", false).Code == impl.ErrFull, count == impl.MaxFrames)
		}
	}
	last := impl.World{Frames: framesOf("1 0 https://a.com/", "1000000 1 https://a.com/")}
	sameWorldOut(t, "a last Id of MaxTime", impl.Open(last, 1, "https://b.com/", false), wrongOut(impl.ErrFull))
	same(t, "a last Id of MaxTime goes", impl.Go(last, 1000000, "https://b.com/").Id, 1000000)
}

func TestOpenFaultsOfWorldsInTheirOrder(t *testing.T) {
	begin := worldArgs{w: houseWorld(), id: 1, url: "https://b.com/"}
	boxes := []worldFault{{"a top that is a Sandbox", impl.ErrForm, "id sandbox", func(a *worldArgs) { a.id, a.sandbox = 0, true }}}
	full := []worldFault{
		{"MaxFrames", impl.ErrFull, "frames", func(a *worldArgs) {
			a.w.Frames = manyFrames(impl.MaxFrames - 1)
			a.w.Frames = append(a.w.Frames, framesOf("20 1 https://a.com/")...)
		}},
		{"a last Id of MaxTime", impl.ErrFull, "frames", func(a *worldArgs) { a.w.Frames = framesOf("1 0 https://a.com/", "1000000 0 https://a.com/") }},
	}
	faultsInOrder(t, begin, openCall, tooLongUrls, wrongParts, noFrames[:1], wrongUrlFaults, boxes, full)
	for _, fault := range noFrames {
		faultsInOrder(t, begin, openCall, []worldFault{fault}, wrongUrlFaults, full[1:])
	}
	// A top that is a Sandbox is no right one, whatever else there is no room for.
	a := begin
	a.id, a.sandbox, a.w.Frames = 0, true, manyFrames(impl.MaxFrames)
	sameWorldOut(t, "a top that is a Sandbox, MaxFrames", impl.Open(a.w, 0, a.url, true), wrongOut(impl.ErrForm))
}

func TestGoFaultsOfWorldsInTheirOrder(t *testing.T) {
	begin := worldArgs{w: houseWorld(), id: 2, url: "https://c.com/"}
	faultsInOrder(t, begin, goCall, tooLongUrls, wrongParts, frameOfZero, noFrames, wrongUrlFaults)
	begin.w.Frames = framesOf("1 0 https://a.com/", "2 1 https://b.com/")
	faultsInOrder(t, begin, goCall, noFrames, wrongUrlFaults)
}
