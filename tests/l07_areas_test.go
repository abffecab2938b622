package tests

import (
	"fmt"
	"math/rand"
	"regexp"
	"slices"
	"strings"
	"testing"

	"loop.example/g00551/impl"
)

// Which areas are right; and what the tests of chapter 8 have in common.

const longestName = "a_0123456789bcdefg_z"

var (
	longestKey   = "https://a.com^" + strings.Repeat("x", 200-len("https://a.com^"))
	longestValue = textOf(40)
)

// wrongKeys and the like: none of them is too long for chapter 1.
var (
	wrongKeys   = []string{"", longestKey + "x", strings.Repeat("é", 101), tooLong[1:]}
	wrongNames  = []string{"", longestName + "a", "9a", "_a", "A", "-a", " a", "é", "aB", "a-b", "a.b", "a b", "a\n", "aé", "a\x00", "a\xff", tooLong[1:]}
	wrongValues = []string{longestValue + "x", strings.Repeat("é", 21), tooLong[1:]}
)

func sameArea(t *testing.T, what string, got []impl.Entry, want []impl.Entry) {
	t.Helper()
	if !slices.Equal(got, want) {
		t.Errorf("%s: got %q, want %q", what, got, want)
	}
}

func sameAreaOut(t *testing.T, what string, got impl.AreaOut, want impl.AreaOut) {
	t.Helper()
	same(t, what+": code", got.Code, want.Code)
	same(t, what+": value", got.Value, want.Value)
	sameArea(t, what, got.Area, want.Area)
}

// anEntry is right, and far from its room's quota.
var anEntry = impl.Entry{Key: "k", Name: "n", Value: "v"}

// manyEntries: so many that may stand in one area, each in a room of its own.
func manyEntries(count int) []impl.Entry {
	var l []impl.Entry
	for i := range count {
		l = append(l, impl.Entry{Key: fmt.Sprintf("k%03d", i), Name: "n", Value: "v"})
	}
	return l
}

// roomOf: a room of one key with Names a, b, c and so on, of so many bytes each,
// Name and Value together.
func roomOf(key string, sizes ...int) []impl.Entry {
	var l []impl.Entry
	for i, size := range sizes {
		l = append(l, impl.Entry{Key: key, Name: string(rune('a' + i)), Value: textOf(size - 1)})
	}
	return l
}

// entriesOf: of each text the Key, the Name and the Value, with blanks between.
func entriesOf(texts ...string) []impl.Entry {
	var l []impl.Entry
	for _, text := range texts {
		words := strings.Split(text, " ")
		l = append(l, impl.Entry{Key: words[0], Name: words[1], Value: words[2]})
	}
	return l
}

func TestAreasByCount(t *testing.T) {
	same(t, "MaxEntries", impl.MaxEntries, 16)
	same(t, "Quota", impl.Quota, 60)
	same(t, "none", impl.AreaRight(nil), true)
	same(t, "an empty list", impl.AreaRight([]impl.Entry{}), true)
	for count := range impl.MaxEntries + 4 {
		same(t, fmt.Sprint(count, " entries"), impl.AreaRight(manyEntries(count)), count <= impl.MaxEntries)
		same(t, fmt.Sprint(count, " entries of one room"), impl.AreaRight(roomOf("k", slices.Repeat([]int{1}, count)...)), count <= impl.MaxEntries)
	}
	same(t, "as many as a list may have", impl.AreaRight(manyEntries(impl.MaxList)), false)
	same(t, "more than a list may have", impl.AreaRight(manyEntries(impl.MaxList+1)), false)
}

// entryTurns: what makes anEntry otherwise, and whether it is right then.
var entryTurns = []struct {
	what  string
	right bool
	turn  func(e *impl.Entry)
}{
	{"as it is", true, func(e *impl.Entry) {}},
	{"no Key", false, func(e *impl.Entry) { e.Key = "" }},
	{"a Key of one byte", true, func(e *impl.Entry) { e.Key = "\x00" }},
	{"a Key of other bytes", true, func(e *impl.Entry) { e.Key = "\xff\n é" }},
	{"a Key of 200 bytes", true, func(e *impl.Entry) { e.Key = longestKey }},
	{"a Key of 201 bytes", false, func(e *impl.Entry) { e.Key = longestKey + "x" }},
	{"a Key of 200 bytes and 100 runes", true, func(e *impl.Entry) { e.Key = strings.Repeat("é", 100) }},
	{"a Key of 202 bytes and 101 runes", false, func(e *impl.Entry) { e.Key = strings.Repeat("é", 101) }},
	{"a Key of far more bytes", false, func(e *impl.Entry) { e.Key = tooLong }},
	{"no Name", false, func(e *impl.Entry) { e.Name = "" }},
	{"a Name of 20 bytes", true, func(e *impl.Entry) { e.Name = longestName }},
	{"a Name of 21 bytes", false, func(e *impl.Entry) { e.Name = longestName + "a" }},
	{"a Name with a digit first", false, func(e *impl.Entry) { e.Name = "9a" }},
	{"a Name with a bar first", false, func(e *impl.Entry) { e.Name = "_a" }},
	{"a Name with a capital first", false, func(e *impl.Entry) { e.Name = "Na" }},
	{"a Name with a capital", false, func(e *impl.Entry) { e.Name = "nA" }},
	{"a Name with a blank", false, func(e *impl.Entry) { e.Name = "n a" }},
	{"a Name with a hyphen", false, func(e *impl.Entry) { e.Name = "n-a" }},
	{"a Name with a dot", false, func(e *impl.Entry) { e.Name = "n.a" }},
	{"a Name with a line feed", false, func(e *impl.Entry) { e.Name = "n\n" }},
	{"a Name of far more bytes", false, func(e *impl.Entry) { e.Name = tooLong }},
	{"no Value", true, func(e *impl.Entry) { e.Value = "" }},
	{"a Value of other bytes", true, func(e *impl.Entry) { e.Value = "\x00\xff\n; " }},
	{"a Value of 39 bytes", true, func(e *impl.Entry) { e.Value = longestValue[1:] }},
	{"a Value of 40 bytes", true, func(e *impl.Entry) { e.Value = longestValue }},
	{"a Value of 41 bytes", false, func(e *impl.Entry) { e.Value = longestValue + "x" }},
	{"a Value of 40 bytes and 20 runes", true, func(e *impl.Entry) { e.Value = strings.Repeat("é", 20) }},
	{"a Value of 42 bytes and 21 runes", false, func(e *impl.Entry) { e.Value = strings.Repeat("é", 21) }},
	{"a Value of far more bytes", false, func(e *impl.Entry) { e.Value = tooLong }},
	{"all that there is", true, func(e *impl.Entry) { *e = impl.Entry{Key: longestKey, Name: longestName, Value: longestValue} }},
	{"nothing", false, func(e *impl.Entry) { *e = impl.Entry{} }},
}

func TestAreasByField(t *testing.T) {
	same(t, "the longest Key", len(longestKey), 200)
	same(t, "the longest Name", len(longestName), 20)
	same(t, "the longest Value", len(longestValue), 40)
	for _, turn := range entryTurns {
		e := anEntry
		turn.turn(&e)
		same(t, turn.what, impl.AreaRight([]impl.Entry{e}), turn.right)
		same(t, turn.what+": by form", areaByForm([]impl.Entry{e}), turn.right)
	}
	for i := range 256 {
		name := "n" + string([]byte{byte(i)})
		same(t, "Name "+name, impl.AreaRight([]impl.Entry{{Key: "k", Name: name}}), impl.NameRight(name))
		name = name[1:]
		same(t, "Name "+name, impl.AreaRight([]impl.Entry{{Key: "k", Name: name}}), impl.NameRight(name))
	}
}

func TestAreasByOrder(t *testing.T) {
	cases := []struct {
		what   string
		places []string
		right  bool
	}{
		{"Keys rising", []string{"a n 1", "b n 1"}, true},
		{"Keys falling", []string{"b n 1", "a n 1"}, false},
		{"a Key that begins the next one", []string{"a n 1", "aa n 1"}, true},
		{"a Key that begins the one ahead", []string{"aa n 1", "a n 1"}, false},
		{"capitals ahead", []string{"B n 1", "a n 1"}, true},
		{"capitals behind", []string{"a n 1", "B n 1"}, false},
		{"bytes above 127 behind", []string{"z n 1", "\x80 n 1", "\xff n 1"}, true},
		{"bytes above 127 ahead", []string{"\xff n 1", "z n 1"}, false},
		{"the third falls", []string{"a n 1", "c n 1", "b n 1"}, false},
		{"the third is as the first", []string{"a n 1", "b n 1", "a n 1"}, false},
		{"one place twice", []string{"a n 1", "a n 1"}, false},
		{"one place twice, another Value", []string{"a n 1", "a n 2"}, false},
		{"one place twice, another Value first", []string{"a n 2", "a n 1"}, false},
		{"Names rising", []string{"a m 1", "a n 1"}, true},
		{"Names falling", []string{"a n 1", "a m 1"}, false},
		{"a Name that begins the next one", []string{"a n 1", "a nn 1"}, true},
		{"a Name that begins the one ahead", []string{"a nn 1", "a n 1"}, false},
		{"digits, bar, letters", []string{"a n0 1", "a n_ 1", "a na 1"}, true},
		{"a bar ahead of digits", []string{"a n_ 1", "a n0 1"}, false},
		{"a letter ahead of a bar", []string{"a na 1", "a n_ 1"}, false},
		{"Keys rising, Names falling", []string{"a z 1", "b a 1"}, true},
		{"Keys falling, Names rising", []string{"b a 1", "a z 1"}, false},
		{"Names falling in the second room", []string{"a m 1", "b n 1", "b m 1"}, false},
		{"Values falling", []string{"a m 2", "a n 1"}, true},
		{"together alike", []string{"a bc 1", "ab c 1"}, true},
		{"together alike, falling", []string{"ab c 1", "a bc 1"}, false},
	}
	for _, c := range cases {
		l := entriesOf(c.places...)
		same(t, c.what, impl.AreaRight(l), c.right)
		same(t, c.what+": by form", areaByForm(l), c.right)
	}
}

func TestAreasByQuota(t *testing.T) {
	cases := []struct {
		what  string
		l     []impl.Entry
		right bool
	}{
		{"59 bytes", roomOf("k", 30, 29), true},
		{"60 bytes", roomOf("k", 30, 30), true},
		{"61 bytes", roomOf("k", 30, 31), false},
		{"60 bytes, the first is long", roomOf("k", 41, 19), true},
		{"61 bytes, the first is long", roomOf("k", 41, 20), false},
		{"60 bytes of one", []impl.Entry{{Key: "k", Name: longestName, Value: longestValue}}, true},
		{"61 bytes, one of them 60", []impl.Entry{{Key: "k", Name: longestName, Value: longestValue}, {Key: "k", Name: "b"}}, false},
		{"60 bytes of 16", roomOf("k", slices.Repeat([]int{4, 3, 4, 4}, 4)...), true},
		{"61 bytes of 16", roomOf("k", append(slices.Repeat([]int{4, 3, 4, 4}, 3), 4, 3, 4, 5)...), false},
		{"a far longer Key", roomOf(longestKey, 30, 30), true},
		{"a far longer Key, 61 bytes", roomOf(longestKey, 30, 31), false},
		{"60 and 60 bytes", append(roomOf("j", 30, 30), roomOf("k", 20, 20, 20)...), true},
		{"61 and 60 bytes", append(roomOf("j", 30, 31), roomOf("k", 20, 20, 20)...), false},
		{"60 and 61 bytes", append(roomOf("j", 30, 30), roomOf("k", 20, 20, 21)...), false},
		{"60, 60 and 60 bytes", slices.Concat(roomOf("j", 30, 30), roomOf("jj", 41, 19), roomOf("k", 20, 20, 20)), true},
		{"60, 61 and 60 bytes", slices.Concat(roomOf("j", 30, 30), roomOf("jj", 41, 20), roomOf("k", 20, 20, 20)), false},
		{"Values by bytes, not by runes", entriesOf("k a "+strings.Repeat("é", 20), "k b "+strings.Repeat("é", 10)), false},
	}
	for _, c := range cases {
		same(t, c.what, impl.AreaRight(c.l), c.right)
		same(t, c.what+": by form", areaByForm(c.l), c.right)
	}
}

var areaNameForm = regexp.MustCompile(`^[a-z][a-z0-9_]{0,19}$`)

// areaByForm: is an area right? One sentence of the document after the other.
func areaByForm(l []impl.Entry) bool {
	used := map[string]int{}
	for i, e := range l {
		if len(e.Key) < 1 || len(e.Key) > 200 || !areaNameForm.MatchString(e.Name) || len(e.Value) > 40 {
			return false
		}
		if i > 0 && slices.Compare([]string{l[i-1].Key, l[i-1].Name}, []string{e.Key, e.Name}) > -1 {
			return false
		}
		used[e.Key] += len(e.Name + e.Value)
	}
	for _, bytes := range used {
		if bytes > 60 {
			return false
		}
	}
	return len(l) <= 16
}

// wrongAreas: each has one thing that may not be; none is too long for chapter 1.
func wrongAreas() [][]impl.Entry {
	var all [][]impl.Entry
	for _, turn := range entryTurns {
		if turn.right {
			continue
		}
		e := anEntry
		turn.turn(&e)
		all = append(all, []impl.Entry{e}, append(entriesOf("a n 1"), e), append([]impl.Entry{e}, entriesOf("z n 1")...))
	}
	return append(all,
		entriesOf("k n v", "j n v"), entriesOf("j n v", "k o v", "k n v"), entriesOf("k n v", "k n v"), entriesOf("j n 1", "k n v", "k n w"),
		roomOf("k", 30, 31), append(roomOf("j", 30, 31), anEntry), append([]impl.Entry{anEntry}, roomOf("l", 20, 20, 21)...),
		append([]impl.Entry{anEntry}, manyEntries(impl.MaxEntries)...), append([]impl.Entry{anEntry}, manyEntries(impl.MaxList-1)...))
}

func TestAreasThatAreWrong(t *testing.T) {
	for _, l := range wrongAreas() {
		same(t, shown(l), impl.AreaRight(l), false)
		same(t, shown(l)+": by form", areaByForm(l), false)
	}
}

// Few of each, so that they often meet, and some that begin others.
var (
	areaKeys  = []string{"a", "ab", "k", "\xff", longestKey}
	areaNames = []string{"a", "ab", "b", "bc", "c", "n0", "n_", "na", longestName}
	areaSizes = []int{0, 0, 1, 2, 5, 9, 18, 39, 40}
)

// someArea draws one that is most often right, and often nearly full.
func someArea(r *rand.Rand) []impl.Entry {
	var l []impl.Entry
	most := r.Intn(impl.MaxEntries + 2)
	for _, key := range areaKeys {
		used := 0
		for _, name := range areaNames {
			e := impl.Entry{Key: key, Name: name, Value: textOf(oneOf(r, areaSizes))}
			size := len(e.Name + e.Value)
			if len(l) < most && r.Intn(2) == 0 && (used+size <= impl.Quota || r.Intn(100) == 0) {
				used += size
				l = append(l, e)
			}
		}
	}
	if len(l) > 1 && r.Intn(20) == 0 {
		at := r.Intn(len(l) - 1)
		l[at], l[at+1] = l[at+1], l[at]
	}
	return l
}

func TestAreasDrawn(t *testing.T) {
	r := rand.New(rand.NewSource(7))
	right := 0
	for range 6000 {
		l := someArea(r)
		want := areaByForm(l)
		if got := impl.AreaRight(l); got != want {
			t.Fatalf("%q: got %v, want %v", l, got, want)
		}
		if want {
			right++
		}
	}
	if right < 3000 || right > 5900 {
		t.Errorf("%d of 6000 are right: this tells little", right)
	}
}

// area: a copy in memory that can be turned, in a list with room behind its end.
func (b *inBytes) area(l []impl.Entry) []impl.Entry {
	held := make([]impl.Entry, 0, len(l)+3)
	for _, e := range l {
		held = append(held, impl.Entry{Key: b.text(e.Key), Name: b.text(e.Name), Value: b.text(e.Value)})
	}
	return held
}

// sameAreaBehind: what was handed in is as it was, and so is the room behind it.
func sameAreaBehind(t *testing.T, held []impl.Entry, l []impl.Entry) {
	t.Helper()
	sameArea(t, "the area handed in", held, l)
	sameArea(t, "what lies behind it", held[len(held):cap(held)], make([]impl.Entry, cap(held)-len(held)))
}

func TestAreaRightLeavesWhatIsHandedIn(t *testing.T) {
	for _, l := range [][]impl.Entry{manyEntries(3), roomOf("k", 30, 30), roomOf("k", 30, 31), entriesOf("b n 1", "a n 1")} {
		var b inBytes
		held := b.area(l)
		same(t, shown(l), impl.AreaRight(held), areaByForm(l))
		sameAreaBehind(t, held, l)
	}
}
