package tests

import (
	"fmt"
	"math/rand"
	"slices"
	"strconv"
	"strings"
	"testing"

	"loop.example/g00551/impl"
)

// Which Frames are right; and what the tests of chapter 10 have in common.

func sameFrames(t *testing.T, what string, got []impl.Frame, want []impl.Frame) {
	t.Helper()
	if !slices.Equal(got, want) {
		t.Errorf("%s: got %+v, want %+v", what, got, want)
	}
}

func sameFramesOut(t *testing.T, what string, got impl.FramesOut, want impl.FramesOut) {
	t.Helper()
	same(t, what+": code", got.Code, want.Code)
	same(t, what+": Id", got.Id, want.Id)
	sameFrames(t, what, got.Frames, want.Frames)
}

// framesOf: of each text the Id, the Parent and the url, with blanks between;
// then box, flag, and when it was touched, of what is not zero.
func framesOf(texts ...string) []impl.Frame {
	var l []impl.Frame
	for _, text := range texts {
		words := strings.Split(text, " ")
		f := impl.Frame{Id: numberOf(words[0]), Parent: numberOf(words[1]), Url: pageOf(words[2])}
		for _, word := range words[3:] {
			switch word {
			case "box":
				f.Sandbox = true
			case "flag":
				f.Flag = true
			default:
				f.Touch = numberOf(word)
			}
		}
		l = append(l, f)
	}
	return l
}

func numberOf(digits string) int64 {
	n, err := strconv.ParseInt(digits, 10, 64)
	if err != nil {
		panic(err)
	}
	return n
}

func pageOf(text string) impl.Url {
	out := impl.UrlRead(text)
	if out.Code != impl.OK {
		panic("no url: " + text)
	}
	return out.Url
}

// manyFrames: so many, each but the first one in the first one.
func manyFrames(count int) []impl.Frame {
	var l []impl.Frame
	for i := range count {
		l = append(l, framesOf(fmt.Sprint(i+1, " ", min(i, 1), " https://a.com/"))...)
	}
	return l
}

// deepFrames: so many, each but the first one in the one ahead.
func deepFrames(count int) []impl.Frame {
	l := manyFrames(count)
	for i := range l {
		l[i].Parent = int64(i)
	}
	return l
}

func TestFramesByCount(t *testing.T) {
	same(t, "MaxFrames", impl.MaxFrames, 10)
	same(t, "none", impl.FramesRight(nil), true)
	same(t, "an empty list", impl.FramesRight([]impl.Frame{}), true)
	for count := range impl.MaxFrames + 4 {
		right := count <= impl.MaxFrames
		same(t, fmt.Sprint(count, " frames"), impl.FramesRight(manyFrames(count)), right)
		same(t, fmt.Sprint(count, " frames, each within the one ahead"), impl.FramesRight(deepFrames(count)), right)
		tops := manyFrames(count)
		for i := range tops {
			tops[i].Parent = 0
		}
		same(t, fmt.Sprint(count, " tops"), impl.FramesRight(tops), right)
	}
	same(t, "as many as a list may have", impl.FramesRight(manyFrames(impl.MaxList)), false)
	same(t, "more than a list may have", impl.FramesRight(manyFrames(impl.MaxList+1)), false)
}

func TestFramesById(t *testing.T) {
	cases := []struct {
		what  string
		ids   []int64
		right bool
	}{
		{"one of 0", []int64{0}, false},
		{"one of 1", []int64{1}, true},
		{"one below 0", []int64{-1}, false},
		{"one far below 0", []int64{-1 << 63}, false},
		{"one of MaxTime less 1", []int64{impl.MaxTime - 1}, true},
		{"one of MaxTime", []int64{impl.MaxTime}, true},
		{"one above MaxTime", []int64{impl.MaxTime + 1}, false},
		{"one far above MaxTime", []int64{1<<63 - 1}, false},
		{"0 and 1", []int64{0, 1}, false},
		{"below 0, and 1", []int64{-1, 1}, false},
		{"1 and 2", []int64{1, 2}, true},
		{"1 and MaxTime", []int64{1, impl.MaxTime}, true},
		{"1 and above MaxTime", []int64{1, impl.MaxTime + 1}, false},
		{"MaxTime twice", []int64{impl.MaxTime, impl.MaxTime}, false},
		{"with places between", []int64{2, 5, 9, 700000}, true},
		{"the first two equal", []int64{3, 3}, false},
		{"the last two equal", []int64{3, 4, 4}, false},
		{"the first two falling", []int64{4, 3}, false},
		{"the last two falling", []int64{3, 5, 4}, false},
		{"the last one as the first one", []int64{3, 5, 3}, false},
		{"falling below 0", []int64{3, -4}, false},
		{"falling to 0", []int64{3, 0}, false},
		{"one as far above as goes round", []int64{3, 3 + 1<<32}, false},
	}
	for _, c := range cases {
		var tops, held []impl.Frame
		for _, id := range c.ids {
			f := impl.Frame{Id: id, Url: pageOf("https://a.com/")}
			tops = append(tops, f)
			if len(held) > 0 {
				f.Parent = c.ids[0]
			}
			held = append(held, f)
		}
		for _, l := range [][]impl.Frame{tops, held} {
			same(t, c.what, impl.FramesRight(l), c.right)
			same(t, c.what+": by form", framesByForm(l), c.right)
		}
	}
}

// aFrame stands behind framesAhead, and may have framesBehind behind it; each
// of its fields is right.
var aFrame = impl.Frame{Id: 7, Parent: 4, Url: impl.Url{Scheme: "https", Host: "x.b.com", Port: 8443, Path: "/p"}, Sandbox: true, Flag: true, Touch: 5}

var (
	framesAhead  = framesOf("2 0 https://a.com/ 5", "4 2 http://b.com/ flag")
	framesBehind = framesOf("9 0 http://c.com/", "10 9 https://a.com/ box", "12 2 https://a.com/")
)

// frameTurns: what makes aFrame otherwise, and whether it is right then.
var frameTurns = []struct {
	what  string
	right bool
	turn  func(f *impl.Frame)
}{
	{"as it is", true, func(f *impl.Frame) {}},
	{"a parent further ahead", true, func(f *impl.Frame) { f.Parent = 2 }},
	{"a parent of itself", false, func(f *impl.Frame) { f.Parent = 7 }},
	{"a parent behind", false, func(f *impl.Frame) { f.Parent = 9 }},
	{"a parent two behind", false, func(f *impl.Frame) { f.Parent = 10 }},
	{"a parent that is not there, below all", false, func(f *impl.Frame) { f.Parent = 1 }},
	{"a parent that is not there, between", false, func(f *impl.Frame) { f.Parent = 3 }},
	{"a parent that is not there, above all", false, func(f *impl.Frame) { f.Parent = 13 }},
	{"a parent of MaxTime", false, func(f *impl.Frame) { f.Parent = impl.MaxTime }},
	{"a parent above MaxTime", false, func(f *impl.Frame) { f.Parent = impl.MaxTime + 1 }},
	{"a parent below 0", false, func(f *impl.Frame) { f.Parent = -1 }},
	{"a parent below 0, of one that is there", false, func(f *impl.Frame) { f.Parent = -2 }},
	{"a parent far below 0", false, func(f *impl.Frame) { f.Parent = -1 << 63 }},
	{"a parent far above", false, func(f *impl.Frame) { f.Parent = 2 + 1<<32 }},
	{"a top that is a Sandbox", false, func(f *impl.Frame) { f.Parent = 0 }},
	{"a top that is none", true, func(f *impl.Frame) { f.Parent, f.Sandbox = 0, false }},
	{"no Sandbox", true, func(f *impl.Frame) { f.Sandbox = false }},
	{"no Flag", true, func(f *impl.Frame) { f.Flag = false }},
	{"a top with a Flag and a Touch", true, func(f *impl.Frame) { f.Parent, f.Sandbox, f.Touch = 0, false, impl.MaxTime }},
	{"never touched", true, func(f *impl.Frame) { f.Touch = 0 }},
	{"touched at 1", true, func(f *impl.Frame) { f.Touch = 1 }},
	{"touched at MaxTime", true, func(f *impl.Frame) { f.Touch = impl.MaxTime }},
	{"touched above MaxTime", false, func(f *impl.Frame) { f.Touch = impl.MaxTime + 1 }},
	{"touched far above MaxTime", false, func(f *impl.Frame) { f.Touch = 1<<63 - 1 }},
	{"touched below 0", false, func(f *impl.Frame) { f.Touch = -1 }},
	{"touched far below 0", false, func(f *impl.Frame) { f.Touch = -1 << 63 }},
	{"a Url as long as may be", true, func(f *impl.Frame) {
		f.Url = impl.Url{Scheme: "https", Host: longestHost, Port: 65535, Path: longestPath}
	}},
	{"another Url", true, func(f *impl.Frame) { f.Url = impl.Url{Scheme: "http", Host: "com", Port: 1, Path: "/"} }},
	{"nothing but an Id and a Url", true, func(f *impl.Frame) { *f = impl.Frame{Id: f.Id, Url: f.Url} }},
	{"nothing", false, func(f *impl.Frame) { *f = impl.Frame{} }},
}

// framesAround: that frame among those ahead and behind.
func framesAround(f impl.Frame) []impl.Frame {
	return slices.Concat(framesAhead, []impl.Frame{f}, framesBehind)
}

func TestFramesByField(t *testing.T) {
	for _, turn := range frameTurns {
		f := aFrame
		turn.turn(&f)
		l := framesAround(f)
		same(t, turn.what, impl.FramesRight(l), turn.right)
		same(t, turn.what+": by form", framesByForm(l), turn.right)
		same(t, turn.what+", the last one", impl.FramesRight(l[:3]), turn.right)
	}
	for _, u := range wrongUrls {
		f := aFrame
		f.Url = u
		same(t, shown(u), impl.FramesRight(framesAround(f)), false)
		f.Parent, f.Sandbox = 0, false
		same(t, shown(u)+", of a top alone", impl.FramesRight([]impl.Frame{f}), false)
	}
}

func TestFramesByParent(t *testing.T) {
	cases := []struct {
		what    string
		parents []int64 // of the Ids 1, 2, 3 ..
		right   bool
	}{
		{"a top", []int64{0}, true},
		{"in itself", []int64{1}, false},
		{"in what is not there", []int64{2}, false},
		{"two tops", []int64{0, 0}, true},
		{"in each other", []int64{2, 1}, false},
		{"the second in itself", []int64{0, 2}, false},
		{"the first in the second", []int64{2, 0}, false},
		{"two tops with two of each between", []int64{0, 0, 1, 2, 1, 2}, true},
		{"a chain", []int64{0, 1, 2, 3, 4}, true},
		{"a chain from behind", []int64{2, 3, 0}, false},
		{"a chain with one in itself", []int64{0, 1, 3, 3}, false},
		{"a chain with one in the last", []int64{0, 4, 2, 3}, false},
		{"a top behind", []int64{0, 1, 0, 3, 1}, true},
	}
	for _, c := range cases {
		l := manyFrames(len(c.parents))
		for i, parent := range c.parents {
			l[i].Parent = parent
		}
		same(t, c.what, impl.FramesRight(l), c.right)
		same(t, c.what+": by form", framesByForm(l), c.right)
	}
}

// framesByForm: are Frames right? One sentence of the document after the other.
func framesByForm(l []impl.Frame) bool {
	there := map[int64]bool{0: true}
	last := int64(0)
	for _, f := range l {
		if f.Id <= last || f.Id > 1000000 || !there[f.Parent] || !impl.UrlRight(f.Url) || !timeByForm(f.Touch) {
			return false
		}
		if f.Parent == 0 && f.Sandbox {
			return false
		}
		there[f.Id] = true
		last = f.Id
	}
	return len(l) <= 10
}

// wrongFrames: each has one thing that may not be; none is too long for chapter 1.
func wrongFrames() [][]impl.Frame {
	var all [][]impl.Frame
	for _, turn := range frameTurns {
		if !turn.right {
			f := aFrame
			turn.turn(&f)
			all = append(all, framesAround(f), framesAround(f)[:3])
		}
	}
	for _, u := range wrongUrls {
		f := aFrame
		f.Url = u
		all = append(all, framesAround(f))
	}
	return append(all, slices.Concat(framesAhead, framesAhead), slices.Concat(framesAround(aFrame), framesOf("11 2 https://a.com/")),
		framesOf("1 0 https://a.com/ box"), framesOf("2 0 https://a.com/", "1 0 https://a.com/"), framesOf("1000001 0 https://a.com/"), framesOf("0 0 https://a.com/"),
		manyFrames(impl.MaxFrames+1), deepFrames(impl.MaxFrames+1), manyFrames(impl.MaxList))
}

func TestFramesThatAreWrong(t *testing.T) {
	for _, l := range wrongFrames() {
		same(t, shown(l), impl.FramesRight(l), false)
		same(t, shown(l)+": by form", framesByForm(l), false)
	}
}

// Few of each, so that they often meet: some differ by the scheme, the host, the
// port or the path alone.
var frameUrls = []string{
	"https://a.com/", "https://a.com/", "https://a.com/p", "https://x.a.com/", "https://a.com:8443/", "http://a.com/", "http://a.com:443/",
	"https://b.com/", "https://xa.com/", "https://shop.co.uk/", "https://www.shop.co.uk/", "https://city.uk/", "https://com/",
}

func someFrameUrl(r *rand.Rand) impl.Url {
	if r.Intn(100) == 0 {
		return oneOf(r, wrongUrls)
	}
	return pageOf(oneOf(r, frameUrls))
}

// someFrames draws some that are most often right, now and then as many as may
// be, and of Ids that go up to MaxTime.
func someFrames(r *rand.Rand) []impl.Frame {
	count := oneOf(r, []int{0, 1, 2, 3, 4, 5, 6, 7, 8, impl.MaxFrames - 1, impl.MaxFrames, impl.MaxFrames})
	if r.Intn(40) == 0 {
		count = impl.MaxFrames + 1
	}
	var l []impl.Frame
	parents := []int64{0}
	id := int64(0)
	for range count {
		id += int64(1 + r.Intn(2))
		f := impl.Frame{Id: id, Parent: oneOf(r, parents), Url: pageOf(oneOf(r, frameUrls)), Flag: r.Intn(2) == 0, Touch: int64(r.Intn(3) * 5)}
		f.Sandbox = f.Parent != 0 && r.Intn(4) == 0
		parents = append(parents, id)
		l = append(l, f)
	}
	if count > 0 && r.Intn(10) == 0 {
		last := &l[count-1]
		last.Id = oneOf(r, []int64{impl.MaxTime, impl.MaxTime, impl.MaxTime, impl.MaxTime + 1})
	}
	if count > 0 && r.Intn(10) == 0 {
		turnSome(r, &l[r.Intn(count)])
	}
	return l
}

// turnSome makes one field otherwise, most often so that it is not right.
func turnSome(r *rand.Rand, f *impl.Frame) {
	switch r.Intn(5) {
	case 0:
		f.Id += int64(r.Intn(5) - 2)
	case 1:
		f.Parent += int64(r.Intn(9) - 2)
	case 2:
		f.Url = oneOf(r, wrongUrls)
	case 3:
		f.Touch = oneOf(r, wrongTimes)
	case 4:
		f.Sandbox = true
	}
}

// someId draws one that is most often there.
func someId(r *rand.Rand, l []impl.Frame) int64 {
	if len(l) == 0 || r.Intn(10) == 0 {
		return oneOf(r, []int64{-1, 0, 1, 2, 3, 5, 8, 20, impl.MaxTime, impl.MaxTime + 1, 1<<63 - 1, -1 << 63})
	}
	return oneOf(r, l).Id
}

func someRules(r *rand.Rand) []string {
	if r.Intn(40) == 0 {
		return oneOf(r, [][]string{{"b", "a"}, {""}, {"com", "com"}, manyRules(21)})
	}
	return oneOf(r, [][]string{siteRules, siteRules, nil, {"com", "uk"}, {"a.com"}})
}

func TestFramesDrawn(t *testing.T) {
	r := rand.New(rand.NewSource(30))
	right := 0
	for range 6000 {
		l := someFrames(r)
		want := framesByForm(l)
		if got := impl.FramesRight(l); got != want {
			t.Fatalf("%+v: got %v, want %v", l, got, want)
		}
		if want {
			right++
		}
	}
	if right < 3000 || right > 5700 {
		t.Errorf("%d of 6000 are right: this tells little", right)
	}
}

func (b *inBytes) url(u impl.Url) impl.Url {
	return impl.Url{Scheme: b.text(u.Scheme), Host: b.text(u.Host), Port: u.Port, Path: b.text(u.Path)}
}

// frames: a copy in memory that can be turned, in a list with room behind its end.
func (b *inBytes) frames(l []impl.Frame) []impl.Frame {
	held := make([]impl.Frame, 0, len(l)+3)
	for _, f := range l {
		f.Url = b.url(f.Url)
		held = append(held, f)
	}
	return held
}

// sameFramesBehind: what was handed in is as it was, and so is the room behind it.
func sameFramesBehind(t *testing.T, held []impl.Frame, l []impl.Frame) {
	t.Helper()
	sameFrames(t, "the frames handed in", held, l)
	sameFrames(t, "what lies behind them", held[len(held):cap(held)], make([]impl.Frame, cap(held)-len(held)))
}

// ownFrames: a list that was told shares nothing with the one handed in, which
// was cleared.
func ownFrames(t *testing.T, got []impl.Frame, held []impl.Frame) {
	t.Helper()
	for i := range got {
		got[i].Id = -7
	}
	_ = append(got, aFrame)
	sameFrames(t, "the list handed in", held[:cap(held)], make([]impl.Frame, cap(held)))
}

func TestFramesRightLeavesWhatIsHandedIn(t *testing.T) {
	for _, l := range append(wrongFrames(), manyFrames(3), deepFrames(impl.MaxFrames), framesAround(aFrame)) {
		var b inBytes
		held := b.frames(l)
		same(t, shown(l), impl.FramesRight(held), framesByForm(l))
		sameFramesBehind(t, held, l)
	}
}
