package tests

import (
	"fmt"
	"slices"
	"testing"

	"loop.example/g00551/impl"
)

// Who asks for leave: what becomes of the Touch, the Flag and the Grants.

func TestAskFors(t *testing.T) {
	// What is done to the house when all is told.
	used := func(id int64) func(w *impl.World) { return touchedAt(id, 0) }
	type turns []func(w *impl.World)
	cases := []struct {
		what string
		id   int64
		yes  bool
		code int64
		// told: what becomes of it; nil, if no world is told.
		told turns
	}{
		{"related, told no", 2, false, impl.OK, turns{used(2), flagged(2), granted("https://a.com https://b.com 40")}},
		{"related, told yes", 2, true, impl.OK, turns{used(2), flagged(2), granted("https://a.com https://b.com 40")}},
		{"not related, told no", 3, false, impl.ErrDenied, turns{used(3)}},
		{"not related, told yes", 3, true, impl.OK, turns{used(3), flagged(3), granted("https://a.com https://c.com 40")}},
		{"a Sandbox, related, told yes", 6, true, impl.ErrDenied, nil},
		{"a Sandbox, told no", 6, false, impl.ErrDenied, nil},
		{"by http, told yes", 9, true, impl.ErrDenied, nil},
		{"by http, told no", 9, false, impl.ErrDenied, nil},
		{"in a page by http, told yes", 8, true, impl.OK, turns{used(8), flagged(8), granted("http://a.com https://b.com 40")}},
		{"in a page by http, so not related", 8, false, impl.ErrDenied, turns{used(8)}},
		{"a top, told no", 1, false, impl.OK, turns{flagged(1)}},
		{"a top by http, told no", 7, false, impl.OK, turns{flagged(7)}},
		{"of the top's site, told no", 4, false, impl.OK, turns{flagged(4)}},
		{"of the top's site, told yes", 4, true, impl.OK, turns{flagged(4)}},
		{"of the top's site within another's", 5, false, impl.OK, turns{flagged(5)}},
	}
	for _, c := range cases {
		for _, flag := range []bool{false, true} {
			// A Flag that is there stays there.
			begin := turns{touchedAt(c.id, 10), frameTurned(c.id, func(f *impl.Frame) { f.Flag = flag })}
			w := houseWith(begin...)
			want := wrongOut(c.code)
			if c.told != nil {
				want.World = houseWith(slices.Concat(begin, c.told)...)
			}
			got := impl.AskFor(w, c.id, c.yes)
			what := fmt.Sprint(c.what, ", Flag ", flag)
			sameWorldOut(t, what, got, want)
			sameWorldOut(t, what+": by form", askForByForm(worldArgs{w: w, id: c.id, yes: c.yes}), want)
			same(t, what+": right", impl.WorldRight(got.World), true)
		}
	}
}

// What is not touched is denied for a sandbox and by http, OK at home, and else
// refused for its state.
func TestAskForsUntouched(t *testing.T) {
	state, denied := wrongOut(impl.ErrState), wrongOut(impl.ErrDenied)
	for _, yes := range []bool{false, true} {
		for _, id := range []int64{2, 3, 8} {
			sameWorldOut(t, fmt.Sprint("untouched, ", id), impl.AskFor(houseWorld(), id, yes), state)
			sameWorldOut(t, fmt.Sprint("touched long ago, ", id), impl.AskFor(houseWith(touchedAt(id, 4)), id, yes), state)
		}
		for _, id := range []int64{6, 9} {
			sameWorldOut(t, fmt.Sprint("untouched, ", id), impl.AskFor(houseWorld(), id, yes), denied)
		}
		for _, id := range []int64{1, 4, 5, 7} {
			sameWorldOut(t, fmt.Sprint("untouched, ", id), impl.AskFor(houseWorld(), id, yes), impl.WorldOut{World: houseWith(flagged(id))})
		}
	}
	// It is the frame's own Touch, not that of those around or beside it.
	others := houseWith(touchedAt(1, 10), touchedAt(3, 10), touchedAt(5, 10), touchedAt(8, 10))
	sameWorldOut(t, "others are touched", impl.AskFor(others, 2, true), state)
}

func TestAskForsByTouch(t *testing.T) {
	cases := []struct {
		touch   int64
		now     int64
		touched bool
	}{
		{0, 0, false}, {0, 5, false}, {0, 10, false}, {0, impl.MaxTime, false},
		{1, 0, true}, {1, 1, true}, {1, 5, true}, {1, 6, true}, {1, 7, false}, {1, impl.MaxTime, false},
		{10, 10, true}, {10, 11, true}, {10, 14, true}, {10, 15, true}, {10, 16, false}, {10, 1000, false},
		{11, 10, true}, {16, 10, true}, {17, 10, true}, {impl.MaxTime, 0, true}, {impl.MaxTime, impl.MaxTime, true},
		{impl.MaxTime - 5, impl.MaxTime, true}, {impl.MaxTime - 6, impl.MaxTime, false},
	}
	for _, c := range cases {
		w := houseWith(touchedAt(2, c.touch), atTime(c.now), func(w *impl.World) { w.Grants = nil })
		want := wrongOut(impl.ErrState)
		if c.touched {
			until := min(c.now+30, impl.MaxTime)
			want = impl.WorldOut{World: houseWith(touchedAt(2, 0), flagged(2), atTime(c.now), func(w *impl.World) { w.Grants = nil }, granted(fmt.Sprint("https://a.com https://b.com ", until)))}
		}
		sameWorldOut(t, fmt.Sprint("touched at ", c.touch, ", now ", c.now), impl.AskFor(w, 2, false), want)
		sameWorldOut(t, fmt.Sprint("touched at ", c.touch, ", now ", c.now, ": by form"), askForByForm(worldArgs{w: w, id: 2}), want)
	}
	// Touch and Pass, as they come.
	for _, now := range []int64{0, 1, 20} {
		w := impl.Touch(houseWith(atTime(now)), 2).World
		for minutes := range int64(9) {
			code := int64(impl.OK)
			if now+minutes-max(now, 1) > impl.TouchLife {
				code = impl.ErrState
			}
			same(t, fmt.Sprint("touched at ", now, ", ", minutes, " later"), impl.AskFor(impl.Pass(w, minutes).World, 2, false).Code, code)
		}
	}
}

func TestAskForsWithLeave(t *testing.T) {
	live, old := granted("https://a.com https://b.com 11"), granted("https://a.com https://b.com 10")
	for _, yes := range []bool{false, true} {
		for _, touch := range []int64{0, 4, 10} {
			// Nothing new but the Flag, whoever asks: the touch is not used.
			for _, id := range []int64{2, 6} {
				sameWorldOut(t, fmt.Sprint("live, ", id), impl.AskFor(houseWith(live, touchedAt(id, touch)), id, yes), impl.WorldOut{World: houseWith(live, touchedAt(id, touch), flagged(id))})
			}
			sameWorldOut(t, "live by http", impl.AskFor(houseWith(granted("https://a.com http://b.com 11"), touchedAt(9, touch)), 9, yes),
				impl.WorldOut{World: houseWith(granted("https://a.com http://b.com 11"), touchedAt(9, touch), flagged(9))})
		}
		sameWorldOut(t, "no more live, untouched", impl.AskFor(houseWith(old), 2, yes), wrongOut(impl.ErrState))
		sameWorldOut(t, "no more live, a Sandbox", impl.AskFor(houseWith(old, touchedAt(6, 10)), 6, yes), wrongOut(impl.ErrDenied))
		sameWorldOut(t, "no more live, touched", impl.AskFor(houseWith(old, touchedAt(2, 10)), 2, yes), impl.WorldOut{World: houseWith(granted("https://a.com https://b.com 40"), flagged(2))})
	}
	// What is old goes when something is put, and stays else.
	others := []func(w *impl.World){granted("https://a.com https://d.com 10"), granted("https://a.com https://e.com 11"), touchedAt(3, 10)}
	put := houseWith(granted("https://a.com https://e.com 11"), granted("https://a.com https://c.com 40"), flagged(3))
	sameWorldOut(t, "others are old, told yes", impl.AskFor(houseWith(others...), 3, true), impl.WorldOut{World: put})
	sameWorldOut(t, "others are old, told no", impl.AskFor(houseWith(others...), 3, false), impl.WorldOut{World: houseWith(append(others, touchedAt(3, 0))...), Code: impl.ErrDenied})
	sameWorldOut(t, "others are old, a top", impl.AskFor(houseWith(others...), 1, false), impl.WorldOut{World: houseWith(append(others, flagged(1))...)})
	// Leave of both, not of one of them alone.
	for _, text := range []string{"https://a.com https://bb.com 11", "https://x.a.com https://b.com 11", "http://a.com https://b.com 11", "https://b.com https://b.com 11", "https://a.com http://b.com 11"} {
		sameWorldOut(t, text, impl.AskFor(houseWith(granted(text)), 2, true), wrongOut(impl.ErrState))
	}
}

func TestAskForsOfManyGrants(t *testing.T) {
	full := func(w *impl.World) { w.Grants = manyGrants(impl.MaxGrants) }
	for _, yes := range []bool{false, true} {
		sameWorldOut(t, "no room, related", impl.AskFor(houseWith(full, touchedAt(2, 10)), 2, yes), wrongOut(impl.ErrFull))
		sameWorldOut(t, "no room, at home", impl.AskFor(houseWith(full, touchedAt(1, 10)), 1, yes), impl.WorldOut{World: houseWith(full, touchedAt(1, 10), flagged(1))})
		sameWorldOut(t, "no room, untouched", impl.AskFor(houseWith(full), 2, yes), wrongOut(impl.ErrState))
		sameWorldOut(t, "no room, a Sandbox", impl.AskFor(houseWith(full, touchedAt(6, 10)), 6, yes), wrongOut(impl.ErrDenied))
	}
	sameWorldOut(t, "no room, told yes", impl.AskFor(houseWith(full, touchedAt(3, 10)), 3, true), wrongOut(impl.ErrFull))
	sameWorldOut(t, "no room, told no", impl.AskFor(houseWith(full, touchedAt(3, 10)), 3, false), impl.WorldOut{World: houseWith(full), Code: impl.ErrDenied})
}

// The Sets are asked by domain, and by https alone.
func TestAskForsBySets(t *testing.T) {
	cases := []struct {
		sets    string
		top     string
		within  string
		related bool
	}{
		{"a.com:b.com", "https://a.com/", "https://b.com/", true},
		{"a.com:b.com", "https://b.com/", "https://a.com/", true},
		{"a.com:b.com", "https://x.a.com:8443/p", "https://y.b.com/q", true},
		{"a.com:b.com", "http://a.com/", "https://b.com/", false},
		{"a.com:b.com", "https://a.com/", "https://c.com/", false},
		{"a.com:b.com,c.com", "https://c.com/", "https://b.com/", true},
		{"a.com:b.com\nc.com:d.com", "https://a.com/", "https://d.com/", false},
		{"a.com:b.com\nc.com:d.com", "https://c.com/", "https://d.com/", true},
		{"a.com:shop.co.uk", "https://a.com/", "https://www.shop.co.uk/", true},
		{"a.com:shop.co.uk", "https://a.com/", "https://other.co.uk/", false},
		{"a.com:city.uk", "https://a.com/", "https://www.city.uk/", true},
		{"", "https://a.com/", "https://b.com/", false},
	}
	for _, c := range cases {
		w := impl.WorldNew("com\n*.uk\n!city.uk\n", c.sets).World
		w = impl.Open(impl.Open(w, 0, c.top, false).World, 1, c.within, false).World
		w = impl.Touch(w, 2).World
		got := impl.AskFor(w, 2, false)
		what := fmt.Sprintf("%q, %s in %s", c.sets, c.within, c.top)
		same(t, what, got.Code == impl.OK, c.related)
		sameWorldOut(t, what+": by form", askForByForm(worldArgs{w: w, id: 2}), got)
	}
}

func TestAskForFaultsInTheirOrder(t *testing.T) {
	begin := worldArgs{w: houseWith(touchedAt(2, 10), touchedAt(3, 10), touchedAt(6, 10), touchedAt(9, 10)), id: 2}
	far := func(w *impl.World) { w.Now = 16 }
	faultsInOrder(t, begin, askCall, wrongParts, frameOfZero, noFrames, []worldFault{
		{"a Sandbox", impl.ErrDenied, "id", func(a *worldArgs) { a.id = 6 }},
		{"by http", impl.ErrDenied, "id", func(a *worldArgs) { a.id = 9 }},
		{"touched too long ago", impl.ErrState, "now", func(a *worldArgs) { far(&a.w) }},
		{"no room", impl.ErrFull, "grants", func(a *worldArgs) { a.w.Grants = manyGrants(impl.MaxGrants) }},
	})
	sameWorldOut(t, "in a world of nothing", impl.AskFor(impl.World{}, 1, true), wrongOut(impl.ErrNone))
}
