package tests

import (
	"fmt"
	"testing"

	"loop.example/g00551/impl"
)

// How time goes by, and what is touched then.

func TestPasses(t *testing.T) {
	cases := []struct {
		now     int64
		minutes int64
		code    int64
	}{
		{10, -1, impl.ErrRange}, {10, 0, impl.OK}, {10, 1, impl.OK}, {10, 999, impl.OK}, {10, 1000, impl.OK}, {10, 1001, impl.ErrRange},
		{10, -1 << 63, impl.ErrRange}, {10, 1<<63 - 1, impl.ErrRange}, {10, 5 + 1<<32, impl.ErrRange}, {10, -10, impl.ErrRange}, {10, impl.MaxTime, impl.ErrRange},
		{0, 0, impl.OK}, {0, 1000, impl.OK}, {0, -1, impl.ErrRange},
		{impl.MaxTime - 1000, 999, impl.OK}, {impl.MaxTime - 1000, 1000, impl.OK}, {impl.MaxTime - 999, 1000, impl.ErrRange}, {impl.MaxTime - 999, 999, impl.OK},
		{impl.MaxTime - 1, 0, impl.OK}, {impl.MaxTime - 1, 1, impl.OK}, {impl.MaxTime - 1, 2, impl.ErrRange},
		{impl.MaxTime, 0, impl.OK}, {impl.MaxTime, 1, impl.ErrRange}, {impl.MaxTime, -1, impl.ErrRange}, {impl.MaxTime, 1<<63 - 1, impl.ErrRange},
	}
	for _, c := range cases {
		// What is old then stays where it is.
		w := houseWith(atTime(c.now), touchedAt(2, 5), granted("https://a.com https://b.com 11"), func(w *impl.World) { w.Jar[0].Until = 11 })
		want := wrongOut(c.code)
		if c.code == impl.OK {
			want.World = w
			want.World.Now = c.now + c.minutes
		}
		what := fmt.Sprint(c.minutes, " at ", c.now)
		got := impl.Pass(w, c.minutes)
		sameWorldOut(t, what, got, want)
		sameWorldOut(t, what+": by form", passByForm(worldArgs{w: w, minutes: c.minutes}), want)
		same(t, what+": right", impl.WorldRight(got.World), true)
	}
	sameWorldOut(t, "in a world of nothing", impl.Pass(impl.World{}, 7), impl.WorldOut{World: impl.World{Now: 7}})
}

func TestPassFaultsInTheirOrder(t *testing.T) {
	ranges := []worldFault{
		{"below 0", impl.ErrRange, "minutes", func(a *worldArgs) { a.minutes = -1 }},
		{"above 1000", impl.ErrRange, "minutes", func(a *worldArgs) { a.minutes = 1001 }},
		{"more than MaxTime", impl.ErrRange, "minutes now", func(a *worldArgs) { a.w.Now, a.minutes = impl.MaxTime, 1 }},
	}
	faultsInOrder(t, worldArgs{w: houseWorld(), minutes: 5}, passCall, wrongParts, ranges)
}

func TestTouches(t *testing.T) {
	for _, c := range []struct {
		now  int64
		want int64
	}{{0, 1}, {1, 1}, {2, 2}, {10, 10}, {impl.MaxTime - 1, impl.MaxTime - 1}, {impl.MaxTime, impl.MaxTime}} {
		for id := range int64(9) {
			for _, before := range []int64{0, 1, 5, impl.MaxTime} {
				w := houseWith(atTime(c.now), touchedAt(id+1, before), flagged(id+1))
				want := houseWith(atTime(c.now), touchedAt(id+1, c.want), flagged(id+1))
				what := fmt.Sprint(id+1, " at ", c.now, ", touched at ", before)
				got := impl.Touch(w, id+1)
				sameWorldOut(t, what, got, impl.WorldOut{World: want})
				same(t, what+": right", impl.WorldRight(got.World), true)
				sameWorldOut(t, what+": by form", touchByForm(worldArgs{w: w, id: id + 1}), got)
			}
		}
	}
}

func TestTouchFaultsInTheirOrder(t *testing.T) {
	faultsInOrder(t, worldArgs{w: houseWorld(), id: 2}, touchCall, wrongParts, frameOfZero, noFrames)
	sameWorldOut(t, "in a world of nothing", impl.Touch(impl.World{}, 1), wrongOut(impl.ErrNone))
	sameWorldOut(t, "what was shut", impl.Touch(impl.Go(houseWorld(), 2, "https://b.com/").World, 5), wrongOut(impl.ErrNone))
}
