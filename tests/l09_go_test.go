package tests

import (
	"fmt"
	"math/rand"
	"slices"
	"strings"
	"testing"

	"loop.example/g00551/impl"
)

// Promise 15: who goes elsewhere has nothing within any more, and no leave,
// unless it is of the same origin.

// forest has as many frames as may be: three tops, with frames of two of them
// between each other's.
var forest = framesOf(
	"1 0 https://a.com/ flag 5",
	"2 0 https://b.com/ flag 6",
	"3 1 https://b.com/p flag 7",
	"4 2 https://a.com/ box flag 8",
	"5 1 http://a.com/",
	"7 3 https://a.com/ flag 9",
	"8 4 https://b.com/ 10",
	"9 3 https://x.a.com/ box 11",
	"10 7 https://c.com/ flag 12",
	"1000000 0 https://a.com/ flag 13",
)

// withinForest: what lies in each of them, however deep.
var withinForest = map[int64][]int64{1: {3, 5, 7, 9, 10}, 2: {4, 8}, 3: {7, 9, 10}, 4: {8}, 5: nil, 7: {10}, 8: nil, 9: nil, 10: nil, 1000000: nil}

// framesBut: those of other Ids.
func framesBut(l []impl.Frame, ids ...int64) []impl.Frame {
	return slices.DeleteFunc(slices.Clone(l), func(f impl.Frame) bool { return slices.Contains(ids, f.Id) })
}

// framesWith: the one of that Id is turned.
func framesWith(l []impl.Frame, id int64, turn func(f *impl.Frame)) []impl.Frame {
	turned := slices.Clone(l)
	turn(&turned[placeOfId(l, id)])
	return turned
}

func TestFramesGoFromEachPlace(t *testing.T) {
	same(t, "the forest is right", impl.FramesRight(forest), true)
	same(t, "all of it", len(withinForest), len(forest))
	u := pageOf("http://z.com/q")
	for id, within := range withinForest {
		// It has no Flag any more: nowhere there is it of the same origin.
		want := framesWith(framesBut(forest, within...), id, func(f *impl.Frame) { f.Url, f.Flag, f.Touch = u, false, 0 })
		got := impl.FrameGo(forest, siteRules, id, u)
		sameFramesOut(t, fmt.Sprint("go ", id), got, impl.FramesOut{Frames: want, Id: id})
		same(t, fmt.Sprint("go ", id, ": right"), impl.FramesRight(got.Frames), true)
	}
}

func TestFramesShutAtEachPlace(t *testing.T) {
	for id, within := range withinForest {
		got := impl.FrameShut(forest, id)
		sameFramesOut(t, fmt.Sprint("shut ", id), got, impl.FramesOut{Frames: framesBut(framesBut(forest, within...), id), Id: id})
		same(t, fmt.Sprint("shut ", id, ": right"), impl.FramesRight(got.Frames), true)
	}
	sameFramesOut(t, "the only one", impl.FrameShut(framesOf("3 0 https://a.com/"), 3), impl.FramesOut{Id: 3})
	sameFramesOut(t, "the only top", impl.FrameShut(manyFrames(impl.MaxFrames), 1), impl.FramesOut{Id: 1})
	for count := range impl.MaxFrames {
		at := int64(count + 1)
		sameFramesOut(t, fmt.Sprint("a chain, from ", at), impl.FrameShut(deepFrames(impl.MaxFrames), at), impl.FramesOut{Frames: deepFrames(count), Id: at})
		gone := framesWith(deepFrames(count+1), at, func(f *impl.Frame) { f.Url = pageOf("https://z.com/") })
		sameFramesOut(t, fmt.Sprint("a chain, gone at ", at), impl.FrameGo(deepFrames(impl.MaxFrames), nil, at, pageOf("https://z.com/")), impl.FramesOut{Frames: gone, Id: at})
	}
}

// What is shut leaves its Id behind, to be told anew if it was the last one.
func TestFramesOpenBehindWhatIsShut(t *testing.T) {
	u := pageOf("https://a.com/")
	l := manyFrames(4)
	same(t, "the last one is shut", impl.FrameOpen(impl.FrameShut(l, 4).Frames, 1, u, false).Id, 4)
	same(t, "another one is shut", impl.FrameOpen(impl.FrameShut(l, 2).Frames, 1, u, false).Id, 5)
	same(t, "in what is shut", impl.FrameOpen(impl.FrameShut(l, 2).Frames, 2, u, false).Code, impl.ErrNone)
	same(t, "in what lay in what has gone", impl.FrameOpen(impl.FrameGo(l, nil, 1, u).Frames, 2, u, false).Code, impl.ErrNone)
	same(t, "all are shut", impl.FrameOpen(impl.FrameShut(l, 1).Frames, 0, u, false).Id, 1)
	same(t, "MaxFrames, one is shut", impl.FrameOpen(impl.FrameShut(manyFrames(impl.MaxFrames), 2).Frames, 1, u, false).Id, impl.MaxFrames+1)
}

func TestFramesGoByUrl(t *testing.T) {
	cases := []struct {
		what  string
		from  string
		to    string
		stays bool
	}{
		{"to the same url", "https://a.com/p", "https://a.com/p", true},
		{"to another path alone", "https://a.com/p", "https://a.com/q", true},
		{"to the root", "https://a.com/p", "https://a.com/", true},
		{"to another path, by a port", "http://a.com:8080/", "http://a.com:8080/p", true},
		{"to another host of the same site", "https://a.com/", "https://x.a.com/", false},
		{"back from another host of the same site", "https://x.a.com/", "https://a.com/", false},
		{"to another site", "https://a.com/", "https://b.com/", false},
		{"to one that ends with the same letters", "https://a.com/", "https://xa.com/", false},
		{"to another scheme", "https://a.com/", "http://a.com/", false},
		{"to another scheme, back", "http://a.com/", "https://a.com/", false},
		{"to another scheme, of the same port", "https://a.com/", "http://a.com:443/", false},
		{"to another port", "https://a.com/", "https://a.com:8443/", false},
		{"to the port of its scheme", "https://a.com:8443/", "https://a.com/", false},
		{"to one port more", "https://a.com:8443/", "https://a.com:8444/", false},
	}
	for _, c := range cases {
		for _, flag := range []bool{true, false} {
			for _, touch := range []int64{0, 1, 5, impl.MaxTime} {
				for _, sandbox := range []bool{true, false} {
					f := impl.Frame{Id: 7, Parent: 4, Url: pageOf(c.from), Sandbox: sandbox, Flag: flag, Touch: touch}
					want := framesAround(impl.Frame{Id: 7, Parent: 4, Url: pageOf(c.to), Sandbox: sandbox, Flag: flag && c.stays})
					what := fmt.Sprintf("%s: %+v", c.what, f)
					sameFramesOut(t, what, impl.FrameGo(framesAround(f), siteRules, 7, pageOf(c.to)), impl.FramesOut{Frames: want, Id: 7})
				}
			}
		}
	}
}

// By which rules it goes is one: they are held to be right alone.
func TestFramesGoByRules(t *testing.T) {
	u := pageOf("https://x.a.com/")
	want := impl.FrameGo(forest, nil, 3, u)
	same(t, "no rules", want.Code, impl.OK)
	for _, rules := range [][]string{{}, siteRules, {"a.com"}, {"x.a.com"}, manyRules(impl.MaxRules)} {
		sameFramesOut(t, shown(rules), impl.FrameGo(forest, rules, 3, u), want)
	}
	for _, rules := range wrongRuleLists {
		code := int64(impl.ErrForm)
		if len(rules) > impl.MaxList {
			code = impl.ErrSize
		}
		sameFramesOut(t, shown(rules), impl.FrameGo(forest, rules, 3, u), impl.FramesOut{Code: code})
		sameFramesOut(t, shown(rules)+", of what is not there", impl.FrameGo(forest, rules, 6, u), impl.FramesOut{Code: code})
	}
}

// goArgs: what FrameGo is given.
type goArgs struct {
	l     []impl.Frame
	rules []string
	id    int64
	u     impl.Url
}

func (a goArgs) run() impl.FramesOut {
	return impl.FrameGo(a.l, a.rules, a.id, a.u)
}

// goFaults: in the order in which they are named; of is what they turn.
var goFaults = []struct {
	what string
	code int64
	of   string
	turn func(a *goArgs)
}{
	{"a list too long", impl.ErrSize, "l", func(a *goArgs) { a.l = manyFrames(impl.MaxList + 1) }},
	{"too many rules for a list", impl.ErrSize, "rules", func(a *goArgs) { a.rules = manyRules(impl.MaxList + 1) }},
	{"as many as a list may have", impl.ErrForm, "l", func(a *goArgs) { a.l = manyFrames(impl.MaxList) }},
	{"one frame too many", impl.ErrForm, "l", func(a *goArgs) { a.l = manyFrames(impl.MaxFrames + 1) }},
	{"a frame that is not right", impl.ErrForm, "l", func(a *goArgs) { a.l = make([]impl.Frame, 1) }},
	{"Ids that fall", impl.ErrForm, "l", func(a *goArgs) { a.l = framesOf("2 0 https://a.com/", "1 0 https://a.com/") }},
	{"as many rules as a list may have", impl.ErrForm, "rules", func(a *goArgs) { a.rules = manyRules(impl.MaxList) }},
	{"one rule too many", impl.ErrForm, "rules", func(a *goArgs) { a.rules = manyRules(impl.MaxRules + 1) }},
	{"rules that fall", impl.ErrForm, "rules", func(a *goArgs) { a.rules = []string{"b", "a"} }},
	{"a rule that is not right", impl.ErrForm, "rules", func(a *goArgs) { a.rules = []string{""} }},
	{"no url", impl.ErrForm, "u", func(a *goArgs) { a.u = impl.Url{} }},
	{"a url whose host is too long", impl.ErrForm, "u", func(a *goArgs) { a.u.Host += tooLong }},
	{"a url without a port", impl.ErrForm, "u", func(a *goArgs) { a.u.Port = 0 }},
	{"no such frame", impl.ErrNone, "id", func(a *goArgs) { a.id = 9 }},
	{"no frames", impl.ErrNone, "l", func(a *goArgs) { a.l = nil }},
	{"an id of 0", impl.ErrNone, "id", func(a *goArgs) { a.id = 0 }},
	{"an id below 0", impl.ErrNone, "id", func(a *goArgs) { a.id = -1 }},
	{"an id above MaxTime", impl.ErrNone, "id", func(a *goArgs) { a.id = 1 + 1<<32 }},
}

// Each fault by itself, and two at once: the first one is told, and nothing
// else beside it.
func TestFrameGoFaultsInTheirOrder(t *testing.T) {
	begin := goArgs{manyFrames(3), siteRules, 1, pageOf("https://b.com/")}
	same(t, "no fault", begin.run().Code, impl.OK)
	for i, first := range goFaults {
		a := begin
		first.turn(&a)
		sameFramesOut(t, first.what, a.run(), impl.FramesOut{Code: first.code})
		for _, second := range goFaults[i+1:] {
			if strings.Fields(first.of)[0] == strings.Fields(second.of)[0] {
				// They turn the same thing: the first one would be gone.
				continue
			}
			b := a
			second.turn(&b)
			sameFramesOut(t, first.what+", "+second.what, b.run(), impl.FramesOut{Code: first.code})
		}
	}
}

func TestFramesGoAndShutOfWhatIsWrong(t *testing.T) {
	u := pageOf("https://b.com/")
	for _, l := range wrongFrames() {
		for _, id := range []int64{l[0].Id, l[len(l)-1].Id, 1, 0, -1} {
			sameFramesOut(t, shown(l)+": go", impl.FrameGo(l, siteRules, id, u), impl.FramesOut{Code: impl.ErrForm})
			sameFramesOut(t, shown(l)+": shut", impl.FrameShut(l, id), impl.FramesOut{Code: impl.ErrForm})
		}
	}
	for _, wrong := range wrongUrls {
		sameFramesOut(t, shown(wrong), impl.FrameGo(forest, siteRules, 1, wrong), impl.FramesOut{Code: impl.ErrForm})
		sameFramesOut(t, shown(wrong)+", of what is not there", impl.FrameGo(forest, siteRules, 6, wrong), impl.FramesOut{Code: impl.ErrForm})
	}
	for _, l := range [][]impl.Frame{nil, {}, manyFrames(3), forest} {
		for _, id := range []int64{0, -1, -3, 6, 11, 999999, 1000001, 1<<63 - 1, -1 << 63, 3 + 1<<32} {
			sameFramesOut(t, fmt.Sprint("go ", id), impl.FrameGo(l, siteRules, id, u), impl.FramesOut{Code: impl.ErrNone})
			sameFramesOut(t, fmt.Sprint("shut ", id), impl.FrameShut(l, id), impl.FramesOut{Code: impl.ErrNone})
		}
	}
	for _, id := range []int64{1, 401, 0, -1} {
		sameFramesOut(t, "go in a list too long", impl.FrameGo(manyFrames(impl.MaxList+1), siteRules, id, u), impl.FramesOut{Code: impl.ErrSize})
		sameFramesOut(t, "shut in a list too long", impl.FrameShut(manyFrames(impl.MaxList+1), id), impl.FramesOut{Code: impl.ErrSize})
		sameFramesOut(t, "shut in as many as a list may have", impl.FrameShut(manyFrames(impl.MaxList), id), impl.FramesOut{Code: impl.ErrForm})
	}
}

// liesIn: does a frame lie in another one, however deep? Of right ones alone.
func liesIn(l []impl.Frame, f impl.Frame, other int64) bool {
	for f.Parent != 0 {
		if f.Parent == other {
			return true
		}
		f = l[placeOfId(l, f.Parent)]
	}
	return false
}

func frameShutByForm(l []impl.Frame, id int64) impl.FramesOut {
	if !framesByForm(l) {
		return impl.FramesOut{Code: impl.ErrForm}
	}
	if placeOfId(l, id) < 0 {
		return impl.FramesOut{Code: impl.ErrNone}
	}
	left := slices.DeleteFunc(slices.Clone(l), func(f impl.Frame) bool { return f.Id == id || liesIn(l, f, id) })
	return impl.FramesOut{Frames: left, Id: id}
}

func frameGoByForm(l []impl.Frame, rules []string, id int64, u impl.Url) impl.FramesOut {
	if !framesByForm(l) || !impl.RulesRight(rules) || !impl.UrlRight(u) {
		return impl.FramesOut{Code: impl.ErrForm}
	}
	if placeOfId(l, id) < 0 {
		return impl.FramesOut{Code: impl.ErrNone}
	}
	var left []impl.Frame
	for _, f := range l {
		if f.Id == id {
			f.Flag = f.Flag && f.Url.Scheme == u.Scheme && f.Url.Host == u.Host && f.Url.Port == u.Port
			f.Url, f.Touch = u, 0
		}
		if !liesIn(l, f, id) {
			left = append(left, f)
		}
	}
	return impl.FramesOut{Frames: left, Id: id}
}

func TestFramesGoAndShutDrawn(t *testing.T) {
	r := rand.New(rand.NewSource(32))
	codes := map[int64]int{}
	flags := 0
	for range 30000 {
		l, rules, u := someFrames(r), someRules(r), someFrameUrl(r)
		id := someId(r, l)
		got, want := impl.FrameGo(l, rules, id, u), frameGoByForm(l, rules, id, u)
		codes[got.Code]++
		what := fmt.Sprintf("%+v, %q, %d, %+v", l, rules, id, u)
		sameFramesOut(t, what, got, want)
		sameFramesOut(t, what+": shut", impl.FrameShut(l, id), frameShutByForm(l, id))
		if t.Failed() {
			t.FailNow()
		}
		if got.Code == impl.OK && got.Frames[placeOfId(got.Frames, id)].Flag {
			flags++
		}
	}
	for _, code := range []int64{impl.OK, impl.ErrForm, impl.ErrNone} {
		if codes[code] < 1000 {
			t.Errorf("code %d is told %d times: this tells little", code, codes[code])
		}
	}
	if flags < 500 {
		t.Errorf("%d flags stay: this tells little", flags)
	}
}

// page is one of a model in which those within are within, as plain as may be.
type page struct {
	frame  impl.Frame
	within []*page
}

// find: itself, or one within, however deep; nil, if there is none.
func (p *page) find(id int64) *page {
	if p.frame.Id == id {
		return p
	}
	for _, in := range p.within {
		if found := in.find(id); found != nil {
			return found
		}
	}
	return nil
}

// shut takes away one within, however deep, with all that is in it.
func (p *page) shut(id int64) {
	p.within = slices.DeleteFunc(p.within, func(in *page) bool { return in.frame.Id == id })
	for _, in := range p.within {
		in.shut(id)
	}
}

// all: those within, however deep, rising.
func (p *page) all() []impl.Frame {
	var l []impl.Frame
	for _, in := range p.within {
		l = append(append(l, in.frame), in.all()...)
	}
	slices.SortFunc(l, func(a impl.Frame, b impl.Frame) int { return int(a.Id - b.Id) })
	return l
}

// leaveTo gives a frame a Flag and a Touch, in the model and in a list.
func (p *page) leaveTo(l []impl.Frame, id int64) {
	if found := p.find(id); id != 0 && found != nil {
		found.frame.Flag, found.frame.Touch = true, 5
		l[placeOfId(l, id)] = found.frame
	}
}

// The promise: one act behind the other, held against that model.
func TestFramesOneByOne(t *testing.T) {
	r := rand.New(rand.NewSource(33))
	acts := map[string]int{}
	for range 600 {
		var l []impl.Frame
		model := &page{}
		for range 80 {
			id, u, sandbox := oneOf(r, []int64{0, 0, 1, 1, 2, 2, 3, 4, 5, 6, 7, 8, 10, 12}), pageOf(oneOf(r, frameUrls)), r.Intn(4) == 0
			there := model.find(id)
			var out impl.FramesOut
			switch r.Intn(10) {
			case 0:
				out = impl.FrameShut(l, id)
				same(t, "shut", out.Code == impl.OK, id != 0 && there != nil)
				model.shut(id)
			case 1, 2:
				model.leaveTo(l, id)
				continue
			case 3, 4:
				out = impl.FrameGo(l, siteRules, id, u)
				if out.Code != impl.OK {
					break
				}
				stays := there.frame.Flag && impl.OriginText(impl.OriginOf(there.frame.Url)) == impl.OriginText(impl.OriginOf(u))
				acts[fmt.Sprint("go, leave ", there.frame.Flag, " to ", stays, ", within ", there.within != nil)]++
				there.within = nil
				there.frame.Url, there.frame.Flag, there.frame.Touch = u, stays, 0
			default:
				out = impl.FrameOpen(l, id, u, sandbox)
				if out.Code == impl.OK {
					there.within = append(there.within, &page{frame: impl.Frame{Id: out.Id, Parent: id, Url: u, Sandbox: sandbox}})
				}
			}
			if out.Code == impl.OK {
				l = out.Frames
			}
			same(t, "right", impl.FramesRight(l), true)
			sameFrames(t, "as the model", l, model.all())
		}
		if t.Failed() {
			t.FailNow()
		}
	}
	for _, what := range []string{"true to true", "true to false", "false to false"} {
		for _, within := range []bool{true, false} {
			if act := fmt.Sprint("go, leave ", what, ", within ", within); acts[act] < 20 {
				t.Errorf("%s: %d times: this tells little", act, acts[act])
			}
		}
	}
}

func TestFramesGoneAndShutAreNewMemory(t *testing.T) {
	for _, l := range [][]impl.Frame{nil, manyFrames(1), deepFrames(4), framesAround(aFrame), forest, manyFrames(impl.MaxFrames + 1)} {
		for _, id := range []int64{0, 1, 2, 3, 4, 7, 9, impl.MaxTime} {
			var b inBytes
			held := b.frames(l)
			rules := []string{b.text("com"), b.text("uk"), "other"}
			u := pageOf("https://b.com/p")
			gone := impl.FrameGo(held, rules[:2:3], id, b.url(u))
			shut := impl.FrameShut(held, id)
			sameFramesBehind(t, held, l)
			sameList(t, "the rules handed in", rules, []string{"com", "uk", "other"})
			b.turn()
			clear(held)
			what := fmt.Sprint(len(l), " frames, ", id)
			sameFramesOut(t, what+": go, behind the call", gone, frameGoByForm(l, nil, id, u))
			sameFramesOut(t, what+": shut, behind the call", shut, frameShutByForm(l, id))
			ownFrames(t, gone.Frames, held)
			ownFrames(t, shut.Frames, held)
		}
	}
}
