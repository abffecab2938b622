package tests

import (
	"fmt"
	"math/rand"
	"slices"
	"testing"

	"loop.example/g00551/impl"
)

// What is got, dropped, cleared and told of rooms.

// someRooms: three rooms beside each other, of which one begins another.
var someRooms = entriesOf("a bc 1", "a n ", "ab c 2", "ab m three", "ab n 4", "k n 1")

// roomsWithout: what is in someRooms but at these places.
func roomsWithout(gone ...int) []impl.Entry {
	var l []impl.Entry
	for i, e := range someRooms {
		if !slices.Contains(gone, i) {
			l = append(l, e)
		}
	}
	return l
}

func TestAreaGets(t *testing.T) {
	same(t, "the rooms are right", impl.AreaRight(someRooms), true)
	for _, e := range someRooms {
		sameAreaOut(t, shown(e), impl.AreaGet(someRooms, e.Key, e.Name), impl.AreaOut{Area: someRooms, Value: e.Value})
	}
	edge := []impl.Entry{{Key: longestKey, Name: longestName, Value: longestValue}}
	sameAreaOut(t, "as long as may be", impl.AreaGet(edge, longestKey, longestName), impl.AreaOut{Area: edge, Value: longestValue})
	full := manyEntries(impl.MaxEntries)
	for _, e := range full {
		sameAreaOut(t, "a full area", impl.AreaGet(full, e.Key, "n"), impl.AreaOut{Area: full, Value: "v"})
	}
}

func TestAreaDrops(t *testing.T) {
	for at, e := range someRooms {
		got := impl.AreaDrop(someRooms, e.Key, e.Name)
		sameAreaOut(t, shown(e), got, impl.AreaOut{Area: roomsWithout(at)})
		sameAreaOut(t, shown(e)+": anew", impl.AreaDrop(got.Area, e.Key, e.Name), impl.AreaOut{Code: impl.ErrNone})
		sameAreaOut(t, shown(e)+": got", impl.AreaGet(got.Area, e.Key, e.Name), impl.AreaOut{Code: impl.ErrNone})
	}
	sameAreaOut(t, "the only one", impl.AreaDrop([]impl.Entry{anEntry}, "k", "n"), impl.AreaOut{})
	full := manyEntries(impl.MaxEntries)
	for at, e := range full {
		want := slices.Delete(slices.Clone(full), at, at+1)
		sameAreaOut(t, "a full area", impl.AreaDrop(full, e.Key, "n"), impl.AreaOut{Area: want})
	}
}

// missing: places that are right, and at which nothing stands in someRooms.
var missing = []impl.Entry{
	{Key: "b", Name: "n"}, {Key: "A", Name: "n"}, {Key: "abc", Name: "n"}, {Key: "kk", Name: "n"}, {Key: longestKey, Name: "n"},
	{Key: "k", Name: "m"}, {Key: "k", Name: "nn"}, {Key: "a", Name: "b"}, {Key: "a", Name: "c"}, {Key: "a", Name: "m"}, {Key: "ab", Name: "bc"},
	{Key: "ab", Name: "n0"}, {Key: "ab", Name: "n_"}, {Key: "ab", Name: longestName}, {Key: "abc", Name: "c"},
}

// The faults of AreaGet and AreaDrop, in their order: nothing is told beside them.
func TestAreaGetAndDropFaults(t *testing.T) {
	calls := []struct {
		what string
		call func(l []impl.Entry, key string, name string) impl.AreaOut
	}{
		{"get", impl.AreaGet}, {"drop", impl.AreaDrop},
	}
	for _, c := range calls {
		check := func(what string, l []impl.Entry, key string, name string, code int64) {
			t.Helper()
			sameAreaOut(t, c.what+" "+what, c.call(l, key, name), impl.AreaOut{Code: code})
		}
		for _, m := range missing {
			check(shown(m), someRooms, m.Key, m.Name, impl.ErrNone)
			check(shown(m)+", none", nil, m.Key, m.Name, impl.ErrNone)
			check(shown(m)+", an empty list", []impl.Entry{}, m.Key, m.Name, impl.ErrNone)
		}
		for _, l := range wrongAreas() {
			check(shown(l), l, "k", "n", impl.ErrForm)
			check(shown(l)+", missing", l, "none", "n", impl.ErrForm)
			check(shown(l)+", a key too long", l, tooLong, "n", impl.ErrSize)
			check(shown(l)+", a name too long", l, "k", tooLong, impl.ErrSize)
		}
		for _, key := range wrongKeys {
			check("key "+shown(key), someRooms, key, "n", impl.ErrForm)
			check("key "+shown(key)+", none", nil, key, "n", impl.ErrForm)
			check("key "+shown(key)+", a name too long", someRooms, key, tooLong, impl.ErrSize)
			check("key "+shown(key)+", a list too long", manyEntries(impl.MaxList+1), key, "n", impl.ErrSize)
		}
		for _, name := range wrongNames {
			check("name "+shown(name), someRooms, "k", name, impl.ErrForm)
			check("name "+shown(name)+", none", nil, "k", name, impl.ErrForm)
			check("name "+shown(name)+", a key too long", someRooms, tooLong, name, impl.ErrSize)
			check("name "+shown(name)+", a list too long", manyEntries(impl.MaxList+1), "k", name, impl.ErrSize)
		}
		check("a list too long", manyEntries(impl.MaxList+1), "k000", "n", impl.ErrSize)
		check("as many as a list may have", manyEntries(impl.MaxList), "k000", "n", impl.ErrForm)
		check("a key too long", someRooms, tooLong, "n", impl.ErrSize)
		check("a name too long", someRooms, "k", tooLong, impl.ErrSize)
		check("a field too long", []impl.Entry{{Key: "k", Name: "n", Value: tooLong}}, "k", "n", impl.ErrForm)
	}
}

func TestAreaRooms(t *testing.T) {
	cases := []struct {
		what  string
		l     []impl.Entry
		key   string
		left  []impl.Entry
		used  int64
		names []string
	}{
		{"the first", someRooms, "a", roomsWithout(0, 1), 4, []string{"bc", "n"}},
		{"the second", someRooms, "ab", roomsWithout(2, 3, 4), 10, []string{"c", "m", "n"}},
		{"the last", someRooms, "k", roomsWithout(5), 2, []string{"n"}},
		{"not there, ahead", someRooms, "A", someRooms, 0, nil},
		{"not there, between", someRooms, "b", someRooms, 0, nil},
		{"not there, behind", someRooms, "kk", someRooms, 0, nil},
		{"not there, a Name", someRooms, "n", someRooms, 0, nil},
		{"not there, 200 bytes", someRooms, longestKey, someRooms, 0, nil},
		{"none", nil, "k", nil, 0, nil},
		{"an empty list", []impl.Entry{}, "k", nil, 0, nil},
		{"the only one", roomOf("k", 5, 6), "k", nil, 11, []string{"a", "b"}},
		{"an empty Value", entriesOf("k n "), "k", nil, 1, []string{"n"}},
		{"a full room", roomOf("k", 41, 19), "k", nil, 60, []string{"a", "b"}},
		{"a full room of one", []impl.Entry{{Key: longestKey, Name: longestName, Value: longestValue}}, longestKey, nil, 60, []string{longestName}},
		{"a Value by bytes", entriesOf("k n éé"), "k", nil, 5, []string{"n"}},
		{"digits, bar, letters", entriesOf("k a 1", "k a0 1", "k a_ 1", "k aa 1", "k b 1"), "k", nil, 13, []string{"a", "a0", "a_", "aa", "b"}},
		{"a full area", manyEntries(impl.MaxEntries), "k003", slices.Delete(manyEntries(impl.MaxEntries), 3, 4), 2, []string{"n"}},
	}
	for _, c := range cases {
		sameArea(t, c.what, impl.AreaClear(c.l, c.key), c.left)
		same(t, c.what+": used", impl.AreaUsed(c.l, c.key), c.used)
		sameList(t, c.what+": names", impl.AreaNames(c.l, c.key), c.names)
	}
	room := roomOf("k", slices.Repeat([]int{3}, impl.MaxEntries)...)
	sameArea(t, "16 of one room", impl.AreaClear(room, "k"), nil)
	sameArea(t, "16 of one room, another one", impl.AreaClear(room, "j"), room)
	same(t, "16 of one room: used", impl.AreaUsed(room, "k"), 48)
	same(t, "16 of one room: names", len(impl.AreaNames(room, "k")), impl.MaxEntries)
}

// What is not right, or too long, has the zero answer.
func TestAreaRoomsOfWhatIsWrong(t *testing.T) {
	check := func(what string, l []impl.Entry, key string) {
		t.Helper()
		sameArea(t, what, impl.AreaClear(l, key), nil)
		same(t, what+": used", impl.AreaUsed(l, key), 0)
		sameList(t, what+": names", impl.AreaNames(l, key), nil)
	}
	for _, l := range append(wrongAreas(), manyEntries(impl.MaxEntries+1), manyEntries(impl.MaxList), manyEntries(impl.MaxList+1)) {
		for _, key := range []string{"k", "j", "k000", "none", "", tooLong} {
			check(shown(l)+", "+shown(key), l, key)
		}
	}
	for _, key := range append([]string{tooLong}, wrongKeys...) {
		check("key "+shown(key), someRooms, key)
		check("key "+shown(key)+", none", nil, key)
	}
}

func TestAreaRoomsDrawn(t *testing.T) {
	r := rand.New(rand.NewSource(18))
	codes := map[int64]int{}
	for range 10000 {
		l, key, name := someArea(r), someKey(r), someName(r)
		wrongKey := slices.Contains(wrongKeys, key)
		var out []impl.Entry
		var names []string
		get, drop := impl.AreaOut{Code: impl.ErrNone}, impl.AreaOut{Code: impl.ErrNone}
		used := int64(0)
		for i, e := range l {
			if e.Key != key {
				out = append(out, e)
				continue
			}
			names, used = append(names, e.Name), used+int64(len(e.Name+e.Value))
			if e.Name == name {
				get = impl.AreaOut{Area: l, Value: e.Value}
				drop = impl.AreaOut{Area: slices.Delete(slices.Clone(l), i, i+1)}
			}
		}
		if !areaByForm(l) || wrongKey {
			out, names, used = nil, nil, 0
		}
		if !areaByForm(l) || wrongKey || slices.Contains(wrongNames, name) {
			get, drop = impl.AreaOut{Code: impl.ErrForm}, impl.AreaOut{Code: impl.ErrForm}
		}
		codes[get.Code]++
		what := fmt.Sprintf("%q, %q, %q", l, key, name)
		sameAreaOut(t, what+": get", impl.AreaGet(l, key, name), get)
		sameAreaOut(t, what+": drop", impl.AreaDrop(l, key, name), drop)
		sameArea(t, what+": clear", impl.AreaClear(l, key), out)
		same(t, what+": used", impl.AreaUsed(l, key), used)
		sameList(t, what+": names", impl.AreaNames(l, key), names)
		if t.Failed() {
			t.FailNow()
		}
	}
	for _, code := range []int64{impl.OK, impl.ErrForm, impl.ErrNone} {
		if codes[code] < 500 {
			t.Errorf("code %d is told %d times: this tells little", code, codes[code])
		}
	}
}

// roomModel: what each room has, and nothing else, as plain as may be.
type roomModel map[string]map[string]string

func (m roomModel) check(t *testing.T, l []impl.Entry) {
	t.Helper()
	same(t, "right", impl.AreaRight(l), true)
	count := 0
	for _, key := range areaKeys {
		var names []string
		used := 0
		for _, name := range areaNames {
			value, there := m[key][name]
			want := impl.AreaOut{Code: impl.ErrNone}
			if there {
				want = impl.AreaOut{Area: l, Value: value}
				names = append(names, name)
				used += len(name + value)
				count++
			}
			sameAreaOut(t, key+" "+name, impl.AreaGet(l, key, name), want)
		}
		slices.Sort(names)
		sameList(t, key+": names", impl.AreaNames(l, key), names)
		same(t, key+": used", impl.AreaUsed(l, key), int64(used))
		same(t, key+": within its quota", used <= impl.Quota, true)
	}
	same(t, "nothing else", len(l), count)
}

// The promise: one act behind the other in one area, held against a model.
func TestAreaOneByOne(t *testing.T) {
	r := rand.New(rand.NewSource(19))
	codes := map[int64]int{}
	for range 60 {
		var l []impl.Entry
		model := roomModel{}
		for _, key := range areaKeys {
			model[key] = map[string]string{}
		}
		for range 60 {
			key, name, value := oneOf(r, areaKeys), oneOf(r, areaNames), textOf(oneOf(r, areaSizes))
			var out impl.AreaOut
			switch r.Intn(12) {
			case 0:
				out.Area = impl.AreaClear(l, key)
				clear(model[key])
			case 1:
				if out = impl.AreaDrop(l, key, name); out.Code == impl.OK {
					delete(model[key], name)
				}
			default:
				if out = impl.AreaPut(l, key, name, value); out.Code == impl.OK {
					model[key][name] = value
				}
			}
			codes[out.Code]++
			if out.Code == impl.OK {
				l = out.Area
			} else {
				sameArea(t, "beside a code", out.Area, nil)
			}
			model.check(t, l)
		}
		if t.Failed() {
			t.FailNow()
		}
	}
	for _, code := range []int64{impl.OK, impl.ErrNone, impl.ErrFull} {
		if codes[code] < 50 {
			t.Errorf("code %d is told %d times: this tells little", code, codes[code])
		}
	}
}

func TestAreaRoomsAreNewMemory(t *testing.T) {
	for _, e := range append(slices.Clone(someRooms), missing...) {
		at := slices.IndexFunc(someRooms, func(x impl.Entry) bool { return x.Key == e.Key && x.Name == e.Name })
		get, drop := impl.AreaOut{Code: impl.ErrNone}, impl.AreaOut{Code: impl.ErrNone}
		if at >= 0 {
			get, drop = impl.AreaOut{Area: someRooms, Value: someRooms[at].Value}, impl.AreaOut{Area: roomsWithout(at)}
		}
		var left []impl.Entry
		var names []string
		for _, x := range someRooms {
			if x.Key == e.Key {
				names = append(names, x.Name)
			} else {
				left = append(left, x)
			}
		}
		var b inBytes
		held := b.area(someRooms)
		key, name := b.text(e.Key), b.text(e.Name)
		gotGet, gotDrop := impl.AreaGet(held, key, name), impl.AreaDrop(held, key, name)
		gotLeft, gotNames := impl.AreaClear(held, key), impl.AreaNames(held, key)
		impl.AreaUsed(held, key)
		sameAreaBehind(t, held, someRooms)
		b.turn()
		clear(held)
		sameAreaOut(t, shown(e)+": get, behind the call", gotGet, get)
		sameAreaOut(t, shown(e)+": drop, behind the call", gotDrop, drop)
		sameArea(t, shown(e)+": clear, behind the call", gotLeft, left)
		sameList(t, shown(e)+": names, behind the call", gotNames, names)
		for _, l := range [][]impl.Entry{gotGet.Area, gotDrop.Area, gotLeft} {
			for i := range l {
				l[i].Name = "other"
			}
			_ = append(l, anEntry)
		}
		sameArea(t, "the list handed in", held[:cap(held)], make([]impl.Entry, cap(held)))
	}
}
