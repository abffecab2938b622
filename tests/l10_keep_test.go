package tests

import (
	"fmt"
	"strings"
	"testing"

	"loop.example/g00551/impl"
)

// What is kept is looked up in the same room (promise 17).

// houseKeys: the room of each frame of the house.
var houseKeys = map[int64]string{
	1: "https://a.com^https://a.com",
	2: "https://b.com^https://a.com!",
	3: "https://c.com^https://a.com!",
	4: "https://x.a.com^https://a.com",
	5: "https://a.com^https://a.com!",
	6: "null#6^https://a.com!",
	7: "http://a.com^http://a.com",
	8: "https://b.com^http://a.com!",
	9: "http://b.com^https://a.com!",
}

func TestKeeps(t *testing.T) {
	for id, key := range houseKeys {
		for _, name := range []string{"n", "m", "o", longestName} {
			for _, value := range []string{"", "v", longestValue, "\x00\xff\n;"} {
				w := houseWorld()
				got := impl.Keep(w, id, name, value)
				what := fmt.Sprintf("%d, %q, %q", id, name, value)
				want := wrongOut(impl.ErrFull)
				if put := impl.AreaPut(w.Area, key, name, value); put.Code == impl.OK {
					want = impl.WorldOut{World: houseWith(func(w *impl.World) { w.Area = put.Area })}
				}
				sameWorldOut(t, what, got, want)
				sameWorldOut(t, what+": by form", keepByForm(worldArgs{w: w, id: id, name: name, value: value}), got)
				if got.Code == impl.OK {
					sameWorldOut(t, what+": looked up", impl.Look(got.World, id, name), impl.WorldOut{World: got.World, Text: value})
				}
			}
		}
	}
}

func TestLooks(t *testing.T) {
	values := map[int64]string{1: "top", 2: "stranger", 5: "within", 6: "box", 8: "http"}
	for id := range houseKeys {
		want := wrongOut(impl.ErrNone)
		if value, there := values[id]; there {
			want = impl.WorldOut{World: houseWorld(), Text: value}
		}
		sameWorldOut(t, fmt.Sprint(id, ": n"), impl.Look(houseWorld(), id, "n"), want)
		sameWorldOut(t, fmt.Sprint(id, ": m"), impl.Look(houseWorld(), id, "m"), wrongOut(impl.ErrNone))
	}
	empty := houseWith(func(w *impl.World) { w.Area[0].Value = "" })
	sameWorldOut(t, "the empty Value", impl.Look(empty, 1, "n"), impl.WorldOut{World: empty})
	touched := houseWith(touchedAt(2, 9), flagged(2), granted("https://a.com https://b.com 20"))
	sameWorldOut(t, "with leave it is the same room", impl.Look(touched, 2, "n"), impl.WorldOut{World: touched, Text: "stranger"})
}

// Two frames of one key see what the other one keeps; others do not.
func TestKeepsOfTwo(t *testing.T) {
	w := impl.World{Rules: siteRules, Frames: framesOf(
		"1 0 https://a.com/", "2 1 https://b.com/", "3 1 https://b.com/p", "4 1 https://b.com:8443/", "5 1 https://a.com/p",
		"6 0 https://x.a.com/", "7 6 https://b.com/", "8 6 https://a.com/", "9 1 https://b.com/ box", "10 0 https://b.com/")}
	for id := int64(1); id <= 10; id++ {
		kept := impl.Keep(w, id, "n", fmt.Sprint("v", id)).World
		for other := int64(1); other <= 10; other++ {
			want := wrongOut(impl.ErrNone)
			if impl.FrameKey(w.Frames, siteRules, id) == impl.FrameKey(w.Frames, siteRules, other) {
				want = impl.WorldOut{World: kept, Text: fmt.Sprint("v", id)}
			}
			sameWorldOut(t, fmt.Sprint("kept by ", id, ", looked up by ", other), impl.Look(kept, other, "n"), want)
		}
	}
	shared := func(a int64, b int64) bool {
		return impl.Look(impl.Keep(w, a, "n", "v").World, b, "n").Code == impl.OK
	}
	for _, c := range []struct {
		what string
		a, b int64
		one  bool
	}{
		{"two of one origin", 2, 3, true}, {"in pages of one site", 2, 7, true}, {"the top and one of its origin", 1, 5, true}, {"at home in pages of one site", 1, 8, true},
		{"another port", 2, 4, false}, {"a Sandbox", 2, 9, false}, {"a stranger and at home", 2, 10, false}, {"another host", 1, 6, false},
	} {
		same(t, c.what, shared(c.a, c.b), c.one)
		same(t, c.what+", the other way", shared(c.b, c.a), c.one)
	}
}

func TestKeepsByRoom(t *testing.T) {
	w := houseWith(func(w *impl.World) { w.Area = roomOf(houseKeys[2], 30, 29) })
	sameWorldOut(t, "to the quota", impl.Keep(w, 2, "n", ""), impl.WorldOut{World: houseWith(func(w *impl.World) {
		w.Area = append(roomOf(houseKeys[2], 30, 29), impl.Entry{Key: houseKeys[2], Name: "n"})
	})})
	sameWorldOut(t, "one byte more", impl.Keep(w, 2, "n", "v"), wrongOut(impl.ErrFull))
	same(t, "in another room", impl.Keep(w, 3, "n", "v").Code, impl.OK)
	same(t, "instead of another Value", impl.Keep(w, 2, "a", longestValue[:30]).Code, impl.OK)
	many := houseWith(func(w *impl.World) { w.Area = manyEntries(impl.MaxEntries) })
	sameWorldOut(t, "MaxEntries", impl.Keep(many, 2, "n", ""), wrongOut(impl.ErrFull))
	one := impl.World{Rules: siteRules, Frames: framesOf("1 0 https://" + longestHost + ":65535/")}
	kept := impl.Keep(one, 1, "n", "v")
	sameWorldOut(t, "the longest host", impl.Look(kept.World, 1, "n"), impl.WorldOut{World: kept.World, Text: "v"})
	same(t, "its room", kept.World.Area[0].Key, "https://"+longestHost+":65535^https://abcdefghijkl.zbcdefghijky")
	// The longest key of all: a stranger in a page without a Domain.
	deep := impl.World{Rules: []string{"*.abcdefghijkl.abcdefghijkl.abcdefghijkl.abcdefghijkl.zbcdefghijky"}, Frames: framesOf("1 0 https://"+longestHost+":65534/", "2 1 http://"+longestHost+":65535/")}
	deepKept := impl.Keep(deep, 2, "n", "v")
	sameWorldOut(t, "the longest key", impl.Look(deepKept.World, 2, "n"), impl.WorldOut{World: deepKept.World, Text: "v"})
	same(t, "that room", deepKept.World.Area[0].Key, "http://"+longestHost+":65535^https://"+longestHost+"!")
}

var wrongThings = []worldFault{
	{"no name", impl.ErrForm, "name", func(a *worldArgs) { a.name = "" }},
	{"a name of 21 bytes", impl.ErrForm, "name", func(a *worldArgs) { a.name = longestName + "a" }},
	{"a name that is none", impl.ErrForm, "name", func(a *worldArgs) { a.name = "N" }},
	{"a name of MaxBytes bytes", impl.ErrForm, "name", func(a *worldArgs) { a.name = tooLong[1:] }},
}

func TestKeepFaultsInTheirOrder(t *testing.T) {
	begin := worldArgs{w: houseWorld(), id: 2, name: "m", value: "v"}
	tooMuch := []worldFault{
		{"a name too long", impl.ErrSize, "name", func(a *worldArgs) { a.name = tooLong }},
		{"a value too long", impl.ErrSize, "value", func(a *worldArgs) { a.value = tooLong }},
	}
	wrongValues := []worldFault{
		{"a value of 41 bytes", impl.ErrForm, "value", func(a *worldArgs) { a.value = longestValue + "x" }},
		{"a value of MaxBytes bytes", impl.ErrForm, "value", func(a *worldArgs) { a.value = tooLong[1:] }},
	}
	full := []worldFault{
		{"MaxEntries", impl.ErrFull, "area", func(a *worldArgs) { a.w.Area = manyEntries(impl.MaxEntries) }},
		{"no room", impl.ErrFull, "area", func(a *worldArgs) { a.w.Area = roomOf(houseKeys[2], 30, 29) }},
	}
	faultsInOrder(t, begin, keepCall, tooMuch, wrongParts, frameOfZero, noFrames, wrongThings, wrongValues, full)
}

func TestLookFaultsInTheirOrder(t *testing.T) {
	begin := worldArgs{w: houseWorld(), id: 2, name: "n"}
	tooMuch := []worldFault{{"a name too long", impl.ErrSize, "name", func(a *worldArgs) { a.name = tooLong }}}
	none := []worldFault{{"no such name", impl.ErrNone, "area", func(a *worldArgs) { a.w.Area = entriesOf("k n v") }}}
	faultsInOrder(t, begin, lookCall, tooMuch, wrongParts, frameOfZero, noFrames, wrongThings, none)
	for _, name := range wrongNames {
		sameWorldOut(t, "look "+shown(name), impl.Look(houseWorld(), 2, name), wrongOut(impl.ErrForm))
		sameWorldOut(t, "keep "+shown(name), impl.Keep(houseWorld(), 2, name, "v"), wrongOut(impl.ErrForm))
	}
	for _, value := range wrongValues {
		sameWorldOut(t, "keep "+shown(value), impl.Keep(houseWorld(), 2, "n", value), wrongOut(impl.ErrForm))
	}
}

func TestHouseKeys(t *testing.T) {
	same(t, "all of them", len(houseKeys), len(houseFrames))
	for id, key := range houseKeys {
		same(t, fmt.Sprint("the room of ", id), impl.FrameKey(framesOf(houseFrames...), siteRules, id), key)
		same(t, fmt.Sprint("a stranger, ", id), strings.HasSuffix(key, "!"), id != 1 && id != 4 && id != 7)
	}
}
