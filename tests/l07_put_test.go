package tests

import (
	"fmt"
	"math/rand"
	"slices"
	"strings"
	"testing"

	"loop.example/g00551/impl"
)

// Promise 13: what is put in a room is got there, and nothing of other rooms is
// another thing; no room has more than its quota.

func TestAreaPuts(t *testing.T) {
	cases := []struct {
		what string
		l    []string
		put  string
		want []string
	}{
		{"into none", nil, "k n v", []string{"k n v"}},
		{"an empty Value into none", nil, "k n ", []string{"k n "}},
		{"a new room ahead", []string{"b n 1", "c n 1"}, "a z v", []string{"a z v", "b n 1", "c n 1"}},
		{"a new room between", []string{"a n 1", "c n 1"}, "b a v", []string{"a n 1", "b a v", "c n 1"}},
		{"a new room behind", []string{"a n 1", "b n 1"}, "c a v", []string{"a n 1", "b n 1", "c a v"}},
		{"a room that begins another", []string{"aa n 1"}, "a n v", []string{"a n v", "aa n 1"}},
		{"a room that another begins", []string{"a n 1"}, "aa n v", []string{"a n 1", "aa n v"}},
		{"a room in capitals", []string{"a n 1"}, "B n v", []string{"B n v", "a n 1"}},
		{"a new Name ahead", []string{"a n 1", "b m 1", "b n 2", "c n 1"}, "b a v", []string{"a n 1", "b a v", "b m 1", "b n 2", "c n 1"}},
		{"a new Name between", []string{"a n 1", "b m 1", "b o 2", "c n 1"}, "b n v", []string{"a n 1", "b m 1", "b n v", "b o 2", "c n 1"}},
		{"a new Name behind", []string{"a n 1", "b m 1", "b n 2", "c n 1"}, "b z v", []string{"a n 1", "b m 1", "b n 2", "b z v", "c n 1"}},
		{"a new Name in the last room", []string{"a n 1", "b n 2"}, "b o v", []string{"a n 1", "b n 2", "b o v"}},
		{"a Name that begins another", []string{"a nn 1"}, "a n v", []string{"a n v", "a nn 1"}},
		{"a Name that another begins", []string{"a n 1"}, "a nn v", []string{"a n 1", "a nn v"}},
		{"digits, bar, letters", []string{"a n0 1", "a na 1"}, "a n_ v", []string{"a n0 1", "a n_ v", "a na 1"}},
		{"a Name that is there", []string{"k n 1"}, "k n v", []string{"k n v"}},
		{"the first Name", []string{"a n 1", "b m 1", "b n 2", "b o 3", "c n 1"}, "b m v", []string{"a n 1", "b m v", "b n 2", "b o 3", "c n 1"}},
		{"the second Name", []string{"a n 1", "b m 1", "b n 2", "b o 3", "c n 1"}, "b n v", []string{"a n 1", "b m 1", "b n v", "b o 3", "c n 1"}},
		{"the last Name", []string{"a n 1", "b m 1", "b n 2", "b o 3", "c n 1"}, "b o v", []string{"a n 1", "b m 1", "b n 2", "b o v", "c n 1"}},
		{"the same Value", []string{"k n v"}, "k n v", []string{"k n v"}},
		{"an empty Value for one", []string{"k n 1"}, "k n ", []string{"k n "}},
		{"a Value for an empty one", []string{"k n "}, "k n v", []string{"k n v"}},
		{"of one Name in other rooms", []string{"a n 1", "b n 2", "c n 3"}, "b n v", []string{"a n 1", "b n v", "c n 3"}},
		{"together alike", []string{"a bc 1"}, "ab c v", []string{"a bc 1", "ab c v"}},
		{"together alike, ahead", []string{"ab c 1"}, "a bc v", []string{"a bc v", "ab c 1"}},
		{"together alike, both there", []string{"a bc 1", "ab c 2"}, "ab c v", []string{"a bc 1", "ab c v"}},
	}
	for _, c := range cases {
		put := entriesOf(c.put)[0]
		got := impl.AreaPut(entriesOf(c.l...), put.Key, put.Name, put.Value)
		sameAreaOut(t, c.what, got, impl.AreaOut{Area: entriesOf(c.want...), Value: put.Value})
		sameAreaOut(t, c.what+": got", impl.AreaGet(got.Area, put.Key, put.Name), impl.AreaOut{Area: entriesOf(c.want...), Value: put.Value})
	}
}

func TestAreaPutsAtTheEdges(t *testing.T) {
	for _, key := range []string{"k", "\x00", "\xff\n ", longestKey, strings.Repeat("é", 100)} {
		for _, name := range []string{"n", longestName} {
			for _, value := range []string{"", "v", "\x00\xff\n; ", longestValue, strings.Repeat("é", 20)} {
				want := impl.AreaOut{Area: []impl.Entry{{Key: key, Name: name, Value: value}}, Value: value}
				sameAreaOut(t, shown(want), impl.AreaPut(nil, key, name, value), want)
				sameAreaOut(t, shown(want)+": an empty list", impl.AreaPut([]impl.Entry{}, key, name, value), want)
			}
		}
	}
}

func TestAreaPutsByCount(t *testing.T) {
	for count := range impl.MaxEntries + 1 {
		l := manyEntries(count)
		for at := 1; at <= count; at++ {
			// In a room behind the first ones, of which there are so many.
			put := impl.Entry{Key: l[at-1].Key + "x", Name: "n", Value: "v"}
			want := impl.AreaOut{Area: slices.Insert(slices.Clone(l), at, put), Value: "v"}
			if count == impl.MaxEntries {
				want = impl.AreaOut{Code: impl.ErrFull}
			}
			sameAreaOut(t, fmt.Sprint("behind ", at, " of ", count), impl.AreaPut(l, put.Key, "n", "v"), want)
		}
		for at := range count {
			want := slices.Clone(l)
			want[at].Value = "w"
			sameAreaOut(t, fmt.Sprint("anew at ", at, " of ", count), impl.AreaPut(l, l[at].Key, "n", "w"), impl.AreaOut{Area: want, Value: "w"})
		}
	}
	full := manyEntries(impl.MaxEntries)
	sameAreaOut(t, "a new room ahead", impl.AreaPut(full, "a", "n", ""), impl.AreaOut{Code: impl.ErrFull})
	sameAreaOut(t, "another Name in a room", impl.AreaPut(full, full[3].Key, "m", ""), impl.AreaOut{Code: impl.ErrFull})
	room := roomOf("k", slices.Repeat([]int{1}, impl.MaxEntries)...)
	sameAreaOut(t, "all of one room", impl.AreaPut(room, "k", "z", ""), impl.AreaOut{Code: impl.ErrFull})
	sameAreaOut(t, "all of one room, another room", impl.AreaPut(room, "l", "a", ""), impl.AreaOut{Code: impl.ErrFull})
}

// A new Name: what the room has, and it, are Quota bytes at most.
func TestAreaPutsByQuota(t *testing.T) {
	for _, has := range []int{18, 19, 20, 39, 40, 41} {
		l := slices.Concat(roomOf("j", 30, 30), roomOf("k", has), roomOf("l", 20, 40))
		for size := range len(longestValue) + 1 {
			for _, name := range []string{"b", longestName[1:]} {
				name = "z" + name
				value := longestValue[:size]
				put := impl.Entry{Key: "k", Name: name, Value: value}
				want := impl.AreaOut{Area: slices.Insert(slices.Clone(l), 3, put), Value: value}
				if has+len(name)+size > 60 {
					want = impl.AreaOut{Code: impl.ErrFull}
				}
				sameAreaOut(t, fmt.Sprint(has, ", ", len(name), " and ", size, " bytes"), impl.AreaPut(l, "k", name, value), want)
			}
		}
	}
	full := roomOf("k", 30, 30)
	sameAreaOut(t, "a full room", impl.AreaPut(full, "k", "c", ""), impl.AreaOut{Code: impl.ErrFull})
	room := []impl.Entry{{Key: "kk", Name: longestName, Value: longestValue}}
	sameAreaOut(t, "beside a full room", impl.AreaPut(full, "kk", longestName, longestValue), impl.AreaOut{Area: slices.Concat(full, room), Value: longestValue})
}

// A Name that is there: its old Value takes nothing any more.
func TestAreaPutsAnewByQuota(t *testing.T) {
	for _, sizes := range [][]int{{41, 19}, {19, 41}, {30, 30}, {30, 29}, {41, 1}, {1, 1}, {20, 20, 20}, {10, 41, 9}} {
		l := slices.Concat(roomOf("j", 30, 30), roomOf("k", sizes...), roomOf("l", 20, 40))
		total := 0
		for _, size := range sizes {
			total += size
		}
		for at, old := range sizes {
			for size := range len(longestValue) + 1 {
				value := longestValue[:size]
				want := impl.AreaOut{Area: slices.Clone(l), Value: value}
				want.Area[2+at].Value = value
				if total-old+1+size > 60 {
					want = impl.AreaOut{Code: impl.ErrFull}
				}
				sameAreaOut(t, fmt.Sprint(sizes, " at ", at, ": ", size), impl.AreaPut(l, "k", l[2+at].Name, value), want)
			}
		}
	}
	alone := []impl.Entry{{Key: "k", Name: longestName, Value: longestValue}}
	for _, value := range []string{"", "v", longestValue, strings.Repeat("z", 40)} {
		want := impl.AreaOut{Area: []impl.Entry{{Key: "k", Name: longestName, Value: value}}, Value: value}
		sameAreaOut(t, "alone: "+value, impl.AreaPut(alone, "k", longestName, value), want)
	}
}

// areaArgs: what AreaPut is given.
type areaArgs struct {
	l     []impl.Entry
	key   string
	name  string
	value string
}

func (a areaArgs) put() impl.AreaOut {
	return impl.AreaPut(a.l, a.key, a.name, a.value)
}

// areaFaults: in the order in which they are named; of is what they turn.
var areaFaults = []struct {
	what string
	code int64
	of   string
	turn func(a *areaArgs)
}{
	{"a list too long", impl.ErrSize, "l", func(a *areaArgs) { a.l = manyEntries(impl.MaxList + 1) }},
	{"a key too long", impl.ErrSize, "key", func(a *areaArgs) { a.key = tooLong }},
	{"a name too long", impl.ErrSize, "name", func(a *areaArgs) { a.name = tooLong }},
	{"a value too long", impl.ErrSize, "value", func(a *areaArgs) { a.value = tooLong }},
	{"as many as a list may have", impl.ErrForm, "l", func(a *areaArgs) { a.l = manyEntries(impl.MaxList) }},
	{"one entry too many", impl.ErrForm, "l", func(a *areaArgs) { a.l = manyEntries(impl.MaxEntries + 1) }},
	{"an area that is not right", impl.ErrForm, "l", func(a *areaArgs) { a.l = make([]impl.Entry, 1) }},
	{"an area that falls", impl.ErrForm, "l", func(a *areaArgs) { a.l = entriesOf("b n v", "a n v") }},
	{"a room that has too much", impl.ErrForm, "l", func(a *areaArgs) { a.l = roomOf("j", 30, 31) }},
	{"that room has too much", impl.ErrForm, "l", func(a *areaArgs) { a.l = roomOf("k", 30, 31) }},
	{"no key", impl.ErrForm, "key", func(a *areaArgs) { a.key = "" }},
	{"a key of 201 bytes", impl.ErrForm, "key", func(a *areaArgs) { a.key = longestKey + "x" }},
	{"a key of MaxBytes bytes", impl.ErrForm, "key", func(a *areaArgs) { a.key = tooLong[1:] }},
	{"no name", impl.ErrForm, "name", func(a *areaArgs) { a.name = "" }},
	{"a name that is none", impl.ErrForm, "name", func(a *areaArgs) { a.name = "9" }},
	{"a name of 21 bytes", impl.ErrForm, "name", func(a *areaArgs) { a.name = longestName + "a" }},
	{"a name of MaxBytes bytes", impl.ErrForm, "name", func(a *areaArgs) { a.name = tooLong[1:] }},
	{"a value of 41 bytes", impl.ErrForm, "value", func(a *areaArgs) { a.value = longestValue + "x" }},
	{"a value of MaxBytes bytes", impl.ErrForm, "value", func(a *areaArgs) { a.value = tooLong[1:] }},
	{"a full area", impl.ErrFull, "l key", func(a *areaArgs) { a.l = manyEntries(impl.MaxEntries) }},
	{"a full room", impl.ErrFull, "l key name", func(a *areaArgs) { a.l = roomOf("k", 30, 30) }},
	{"a full area and a full room", impl.ErrFull, "l key name", func(a *areaArgs) {
		a.l = append(roomOf("k", 30, 30), manyEntries(impl.MaxEntries-2)...)
	}},
}

// Each fault by itself, and two at once: the first one is told, and nothing
// else beside it.
func TestAreaPutFaultsInTheirOrder(t *testing.T) {
	begin := areaArgs{roomOf("j", 5, 5), "k", "n", "v"}
	same(t, "no fault", begin.put().Code, impl.OK)
	for i, first := range areaFaults {
		a := begin
		first.turn(&a)
		sameAreaOut(t, first.what, a.put(), impl.AreaOut{Code: first.code})
		for _, second := range areaFaults[i+1:] {
			if strings.Fields(first.of)[0] == strings.Fields(second.of)[0] {
				// They turn the same thing: the first one would be gone.
				continue
			}
			b := a
			second.turn(&b)
			sameAreaOut(t, first.what+", "+second.what, b.put(), impl.AreaOut{Code: first.code})
		}
	}
}

func TestAreaPutsOfWhatIsWrong(t *testing.T) {
	form := impl.AreaOut{Code: impl.ErrForm}
	for _, l := range wrongAreas() {
		sameAreaOut(t, shown(l), impl.AreaPut(l, "k", "n", "v"), form)
	}
	for _, l := range [][]impl.Entry{nil, {anEntry}, manyEntries(3), manyEntries(impl.MaxEntries), roomOf("k", 30, 30)} {
		for _, key := range wrongKeys {
			sameAreaOut(t, "key "+shown(key), impl.AreaPut(l, key, "n", "v"), form)
		}
		for _, name := range wrongNames {
			sameAreaOut(t, "name "+shown(name), impl.AreaPut(l, "k", name, "v"), form)
		}
		for _, value := range wrongValues {
			sameAreaOut(t, "value "+shown(value), impl.AreaPut(l, "k", "n", value), form)
		}
	}
	// A field is not handed in as such.
	for _, e := range []impl.Entry{{Key: tooLong, Name: "n"}, {Key: "k", Name: tooLong}, {Key: "k", Name: "n", Value: tooLong}} {
		sameAreaOut(t, "a field too long", impl.AreaPut([]impl.Entry{e}, "k", "n", "v"), form)
	}
}

// areaPutByForm: one sentence of the document after the other.
func areaPutByForm(l []impl.Entry, key string, name string, value string) impl.AreaOut {
	if !areaByForm(l) || len(key) < 1 || len(key) > 200 || !areaNameForm.MatchString(name) || len(value) > 40 {
		return impl.AreaOut{Code: impl.ErrForm}
	}
	then := slices.DeleteFunc(slices.Clone(l), func(e impl.Entry) bool { return e.Key == key && e.Name == name })
	then = append(then, impl.Entry{Key: key, Name: name, Value: value})
	slices.SortFunc(then, func(a impl.Entry, b impl.Entry) int {
		return slices.Compare([]string{a.Key, a.Name}, []string{b.Key, b.Name})
	})
	if !areaByForm(then) {
		return impl.AreaOut{Code: impl.ErrFull}
	}
	return impl.AreaOut{Area: then, Value: value}
}

func someKey(r *rand.Rand) string {
	if r.Intn(50) == 0 {
		return oneOf(r, wrongKeys)
	}
	return oneOf(r, areaKeys)
}

func someName(r *rand.Rand) string {
	if r.Intn(50) == 0 {
		return oneOf(r, wrongNames)
	}
	return oneOf(r, areaNames)
}

func someValue(r *rand.Rand) string {
	if r.Intn(50) == 0 {
		return oneOf(r, wrongValues)
	}
	return textOf(oneOf(r, areaSizes))
}

func TestAreaPutsDrawn(t *testing.T) {
	r := rand.New(rand.NewSource(17))
	codes := map[int64]int{}
	for range 30000 {
		l, key, name, value := someArea(r), someKey(r), someName(r), someValue(r)
		got, want := impl.AreaPut(l, key, name, value), areaPutByForm(l, key, name, value)
		codes[got.Code]++
		if got.Code != want.Code || got.Value != want.Value || !slices.Equal(got.Area, want.Area) {
			t.Fatalf("%q, %q, %q, %q: got %+v, want %+v", l, key, name, value, got, want)
		}
	}
	for _, code := range []int64{impl.OK, impl.ErrForm, impl.ErrFull} {
		if codes[code] < 1000 {
			t.Errorf("code %d is told %d times: this tells little", code, codes[code])
		}
	}
}

func TestAreaPutsAreNewMemory(t *testing.T) {
	lists := [][]impl.Entry{nil, {anEntry}, manyEntries(1), manyEntries(impl.MaxEntries - 1), manyEntries(impl.MaxEntries), roomOf("k", 20, 30), roomOf("k", 30, 30)}
	for _, l := range lists {
		for _, put := range entriesOf("k n v", "a n v", "k000 n w", "k a w", "z n ") {
			var b inBytes
			held := b.area(l)
			want := areaPutByForm(l, put.Key, put.Name, put.Value)
			got := impl.AreaPut(held, b.text(put.Key), b.text(put.Name), b.text(put.Value))
			sameAreaBehind(t, held, l)
			b.turn()
			clear(held)
			sameAreaOut(t, shown(put)+": behind the call", got, want)
			for i := range got.Area {
				got.Area[i].Name = "other"
			}
			_ = append(got.Area, anEntry)
			sameArea(t, "the list handed in", held[:cap(held)], make([]impl.Entry, cap(held)))
		}
	}
}
