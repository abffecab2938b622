package tests

import (
	"fmt"
	"math/rand"
	"slices"
	"strings"
	"testing"

	"loop.example/g00551/impl"
)

// What is opened stands behind the others, of an Id one above the last one's.

func TestFrameOpens(t *testing.T) {
	cases := []struct {
		what    string
		l       []string
		parent  int64
		url     string
		sandbox bool
		want    string
	}{
		{"the first one of all", nil, 0, "https://a.com/", false, "1 0 https://a.com/"},
		{"the first one, of another url", nil, 0, "http://x.b.com:8080/p/q", false, "1 0 http://x.b.com:8080/p/q"},
		{"a top behind another", []string{"1 0 https://a.com/"}, 0, "https://b.com/", false, "2 0 https://b.com/"},
		{"a top of the same url", []string{"1 0 https://a.com/"}, 0, "https://a.com/", false, "2 0 https://a.com/"},
		{"a top behind some in another", []string{"1 0 https://a.com/", "2 1 https://b.com/", "3 2 https://b.com/ box"}, 0, "https://b.com/", false, "4 0 https://b.com/"},
		{"in a page", []string{"1 0 https://a.com/"}, 1, "https://b.com/", false, "2 1 https://b.com/"},
		{"in a page, of its own url", []string{"1 0 https://a.com/"}, 1, "https://a.com/", false, "2 1 https://a.com/"},
		{"in a page, a Sandbox", []string{"1 0 https://a.com/"}, 1, "https://b.com/", true, "2 1 https://b.com/ box"},
		{"in a page within", []string{"1 0 https://a.com/", "2 1 https://b.com/"}, 2, "https://c.com/", false, "3 2 https://c.com/"},
		{"in a page within, a Sandbox", []string{"1 0 https://a.com/", "2 1 https://b.com/"}, 2, "https://c.com/", true, "3 2 https://c.com/ box"},
		{"in the page, beside one within", []string{"1 0 https://a.com/", "2 1 https://b.com/"}, 1, "https://c.com/", false, "3 1 https://c.com/"},
		{"in a page that three are around", []string{"1 0 https://a.com/", "2 1 https://b.com/", "3 2 https://b.com/"}, 3, "https://c.com/", false, "4 3 https://c.com/"},
		{"in a Sandbox", []string{"1 0 https://a.com/", "2 1 https://b.com/ box"}, 2, "https://b.com/", false, "3 2 https://b.com/"},
		{"in a Sandbox, one", []string{"1 0 https://a.com/", "2 1 https://b.com/ box"}, 2, "https://b.com/", true, "3 2 https://b.com/ box"},
		{"in one with a Flag, touched", []string{"1 0 https://a.com/ flag 5"}, 1, "https://a.com/", false, "2 1 https://a.com/"},
		{"behind one with a Flag, touched", []string{"1 0 https://a.com/ flag 5"}, 0, "https://a.com/", false, "2 0 https://a.com/"},
		{"in the second one of two tops", []string{"1 0 https://a.com/", "2 0 https://b.com/"}, 2, "https://c.com/", false, "3 2 https://c.com/"},
		{"in the first one of two tops", []string{"1 0 https://a.com/", "2 0 https://b.com/"}, 1, "https://c.com/", false, "3 1 https://c.com/"},
		{"Ids with places between", []string{"3 0 https://a.com/", "7 3 https://b.com/"}, 3, "https://c.com/", false, "8 3 https://c.com/"},
		{"a top behind Ids with places between", []string{"3 0 https://a.com/", "7 3 https://b.com/"}, 0, "https://c.com/", false, "8 0 https://c.com/"},
		{"a last Id of MaxTime less 1", []string{"3 0 https://a.com/", "999999 3 https://b.com/"}, 999999, "https://c.com/", false, "1000000 999999 https://c.com/"},
		{"by http, in a page by https", []string{"1 0 https://a.com/"}, 1, "http://a.com/", false, "2 1 http://a.com/"},
	}
	for _, c := range cases {
		l := framesOf(c.l...)
		one := framesOf(c.want)[0]
		got := impl.FrameOpen(l, c.parent, pageOf(c.url), c.sandbox)
		sameFramesOut(t, c.what, got, impl.FramesOut{Frames: append(framesOf(c.l...), one), Id: one.Id})
		same(t, c.what+": right", impl.FramesRight(got.Frames), true)
	}
	sameFramesOut(t, "an empty list", impl.FrameOpen([]impl.Frame{}, 0, pageOf("https://a.com/"), false), impl.FramesOut{Frames: framesOf("1 0 https://a.com/"), Id: 1})
}

func TestFrameOpensByUrl(t *testing.T) {
	longest := impl.Url{Scheme: "https", Host: longestHost, Port: 65535, Path: longestPath}
	for _, c := range urls {
		sameFramesOut(t, shown(c.url), impl.FrameOpen(nil, 0, c.url, false), impl.FramesOut{Frames: []impl.Frame{{Id: 1, Url: c.url}}, Id: 1})
	}
	want := append(slices.Clone(framesAhead), impl.Frame{Id: 5, Parent: 2, Url: longest, Sandbox: true})
	sameFramesOut(t, "the longest one", impl.FrameOpen(framesAhead, 2, longest, true), impl.FramesOut{Frames: want, Id: 5})
	for _, u := range wrongUrls {
		for _, sandbox := range []bool{false, true} {
			sameFramesOut(t, shown(u), impl.FrameOpen(nil, 0, u, sandbox), impl.FramesOut{Code: impl.ErrForm})
			sameFramesOut(t, shown(u)+", in a page", impl.FrameOpen(framesAhead, 2, u, sandbox), impl.FramesOut{Code: impl.ErrForm})
		}
	}
}

func TestFrameOpensByCount(t *testing.T) {
	u := pageOf("https://b.com/")
	for count := range impl.MaxFrames + 1 {
		for _, l := range [][]impl.Frame{manyFrames(count), deepFrames(count)} {
			for parent := range int64(count + 1) {
				want := impl.FramesOut{Code: impl.ErrFull}
				if count < impl.MaxFrames {
					id := int64(count + 1)
					want = impl.FramesOut{Frames: append(slices.Clone(l), impl.Frame{Id: id, Parent: parent, Url: u}), Id: id}
				}
				sameFramesOut(t, fmt.Sprint("into ", count, ", in ", parent), impl.FrameOpen(l, parent, u, false), want)
			}
		}
	}
	for _, l := range [][]impl.Frame{framesOf("1000000 0 https://a.com/"), framesOf("1 0 https://a.com/", "1000000 1 https://a.com/")} {
		for _, parent := range []int64{0, impl.MaxTime} {
			sameFramesOut(t, "a last Id of MaxTime", impl.FrameOpen(l, parent, u, false), impl.FramesOut{Code: impl.ErrFull})
		}
	}
}

func TestFrameOpensByParent(t *testing.T) {
	u := pageOf("https://b.com/")
	for _, l := range [][]impl.Frame{nil, framesOf("3 0 https://a.com/"), framesAround(aFrame), manyFrames(impl.MaxFrames), framesOf("1000000 0 https://a.com/")} {
		for _, parent := range []int64{-1 << 63, -3, -1, 1 << 32, 3 + 1<<32, 1<<63 - 1, impl.MaxTime + 1, impl.MaxTime - 1, 5, 8, 11, 13} {
			if placeOfId(l, parent) >= 0 {
				continue
			}
			for _, sandbox := range []bool{false, true} {
				sameFramesOut(t, fmt.Sprint("in ", parent), impl.FrameOpen(l, parent, u, sandbox), impl.FramesOut{Code: impl.ErrNone})
			}
		}
		sameFramesOut(t, "a top that is a Sandbox", impl.FrameOpen(l, 0, u, true), impl.FramesOut{Code: impl.ErrForm})
	}
}

// placeOfId: where the first frame of that Id stands; -1, if there is none.
func placeOfId(l []impl.Frame, id int64) int {
	for i, f := range l {
		if f.Id == id {
			return i
		}
	}
	return -1
}

// openArgs: what FrameOpen is given.
type openArgs struct {
	l       []impl.Frame
	parent  int64
	u       impl.Url
	sandbox bool
}

func (a openArgs) open() impl.FramesOut {
	return impl.FrameOpen(a.l, a.parent, a.u, a.sandbox)
}

// openFaults: in the order in which they are named; of is what they turn.
var openFaults = []struct {
	what string
	code int64
	of   string
	turn func(a *openArgs)
}{
	{"a list too long", impl.ErrSize, "l", func(a *openArgs) { a.l = manyFrames(impl.MaxList + 1) }},
	{"as many as a list may have", impl.ErrForm, "l", func(a *openArgs) { a.l = manyFrames(impl.MaxList) }},
	{"one frame too many", impl.ErrForm, "l", func(a *openArgs) { a.l = manyFrames(impl.MaxFrames + 1) }},
	{"a frame that is not right", impl.ErrForm, "l", func(a *openArgs) { a.l = make([]impl.Frame, 1) }},
	{"Ids that fall", impl.ErrForm, "l", func(a *openArgs) { a.l = framesOf("2 0 https://a.com/", "1 0 https://a.com/") }},
	{"a last Id above MaxTime", impl.ErrForm, "l", func(a *openArgs) { a.l = framesOf("1 0 https://a.com/", "1000001 0 https://a.com/") }},
	{"a top that is a Sandbox among them", impl.ErrForm, "l", func(a *openArgs) { a.l = framesOf("1 0 https://a.com/ box") }},
	{"no url", impl.ErrForm, "u", func(a *openArgs) { a.u = impl.Url{} }},
	{"a url whose path is too long", impl.ErrForm, "u", func(a *openArgs) { a.u.Path += tooLong }},
	{"a url whose scheme is none", impl.ErrForm, "u", func(a *openArgs) { a.u.Scheme = "ftp" }},
	{"a top that is a Sandbox", impl.ErrForm, "parent sandbox", func(a *openArgs) { a.parent, a.sandbox = 0, true }},
	{"no such parent", impl.ErrNone, "parent", func(a *openArgs) { a.parent = 9 }},
	{"a parent below 0", impl.ErrNone, "parent", func(a *openArgs) { a.parent = -1 }},
	{"a parent above MaxTime", impl.ErrNone, "parent", func(a *openArgs) { a.parent = impl.MaxTime + 1 }},
	{"MaxFrames", impl.ErrFull, "l", func(a *openArgs) {
		a.l = manyFrames(impl.MaxFrames)
		a.l[impl.MaxFrames-2].Id, a.l[impl.MaxFrames-1].Id = 20, 21
	}},
	{"a last Id of MaxTime", impl.ErrFull, "l", func(a *openArgs) { a.l = framesOf("1 0 https://a.com/", "1000000 0 https://a.com/") }},
}

// Each fault by itself, and two at once: the first one is told, and nothing
// else beside it.
func TestFrameOpenFaultsInTheirOrder(t *testing.T) {
	begin := openArgs{manyFrames(3), 1, pageOf("https://b.com/"), true}
	same(t, "no fault", begin.open().Code, impl.OK)
	for i, first := range openFaults {
		a := begin
		first.turn(&a)
		sameFramesOut(t, first.what, a.open(), impl.FramesOut{Code: first.code})
		for _, second := range openFaults[i+1:] {
			if strings.Fields(first.of)[0] == strings.Fields(second.of)[0] {
				// They turn the same thing: the first one would be gone.
				continue
			}
			b := a
			second.turn(&b)
			sameFramesOut(t, first.what+", "+second.what, b.open(), impl.FramesOut{Code: first.code})
		}
	}
}

func TestFrameOpensOfWhatIsWrong(t *testing.T) {
	u := pageOf("https://b.com/")
	for _, l := range wrongFrames() {
		for _, parent := range []int64{0, 1, l[0].Id, l[len(l)-1].Id, -1} {
			for _, sandbox := range []bool{false, true} {
				sameFramesOut(t, shown(l), impl.FrameOpen(l, parent, u, sandbox), impl.FramesOut{Code: impl.ErrForm})
			}
		}
	}
	for _, count := range []int{impl.MaxList + 1, impl.MaxList * 2} {
		sameFramesOut(t, "a list too long", impl.FrameOpen(manyFrames(count), 1, u, false), impl.FramesOut{Code: impl.ErrSize})
		sameFramesOut(t, "a list too long, of nothing", impl.FrameOpen(make([]impl.Frame, count), -1, impl.Url{}, true), impl.FramesOut{Code: impl.ErrSize})
	}
}

// frameOpenByForm: one sentence of the document after the other.
func frameOpenByForm(l []impl.Frame, parent int64, u impl.Url, sandbox bool) impl.FramesOut {
	if !framesByForm(l) || !impl.UrlRight(u) || sandbox && parent == 0 {
		return impl.FramesOut{Code: impl.ErrForm}
	}
	if parent != 0 && placeOfId(l, parent) < 0 {
		return impl.FramesOut{Code: impl.ErrNone}
	}
	id := int64(1)
	for _, f := range l {
		id = f.Id + 1
	}
	if len(l) == 10 || id == 1000001 {
		return impl.FramesOut{Code: impl.ErrFull}
	}
	return impl.FramesOut{Frames: append(slices.Clone(l), impl.Frame{Id: id, Parent: parent, Url: u, Sandbox: sandbox}), Id: id}
}

func TestFrameOpensDrawn(t *testing.T) {
	r := rand.New(rand.NewSource(31))
	codes := map[int64]int{}
	for range 30000 {
		l, u, sandbox := someFrames(r), someFrameUrl(r), r.Intn(2) == 0
		parent := someId(r, l)
		if r.Intn(4) == 0 {
			parent = 0
		}
		got, want := impl.FrameOpen(l, parent, u, sandbox), frameOpenByForm(l, parent, u, sandbox)
		codes[got.Code]++
		if got.Code != want.Code || got.Id != want.Id || !slices.Equal(got.Frames, want.Frames) {
			t.Fatalf("%+v, %d, %+v, %v: got %+v, want %+v", l, parent, u, sandbox, got, want)
		}
	}
	for _, code := range []int64{impl.OK, impl.ErrForm, impl.ErrNone, impl.ErrFull} {
		if codes[code] < 500 {
			t.Errorf("code %d is told %d times: this tells little", code, codes[code])
		}
	}
}

func TestFrameOpensAreNewMemory(t *testing.T) {
	for _, l := range [][]impl.Frame{nil, manyFrames(1), deepFrames(4), framesAround(aFrame), manyFrames(impl.MaxFrames - 1), manyFrames(impl.MaxFrames), manyFrames(impl.MaxFrames + 1)} {
		for _, parent := range []int64{0, 1, 2, 4, -1} {
			var b inBytes
			held := b.frames(l)
			u := pageOf("https://b.com:8443/p")
			want := frameOpenByForm(l, parent, u, parent > 1)
			got := impl.FrameOpen(held, parent, b.url(u), parent > 1)
			sameFramesBehind(t, held, l)
			b.turn()
			clear(held)
			sameFramesOut(t, fmt.Sprint(len(l), " frames, in ", parent, ": behind the call"), got, want)
			ownFrames(t, got.Frames, held)
		}
	}
}
