package tests

import (
	"fmt"
	"math/rand"
	"strings"
	"testing"

	"loop.example/g00551/impl"
)

// The top in which a frame lies, its origin, and whether it is a stranger there.

// noIds: of no frame, whatever the frames are.
var noIds = []int64{0, -1, -3, -1 << 63, 1<<63 - 1, 3 + 1<<32, impl.MaxTime + 1}

func TestFrameTops(t *testing.T) {
	tops := map[int64]int64{1: 1, 2: 2, 3: 1, 4: 2, 5: 1, 7: 1, 8: 2, 9: 1, 10: 1, 1000000: 1000000}
	for id, top := range tops {
		same(t, fmt.Sprint("in the forest, ", id), impl.FrameTop(forest, id), top)
	}
	for _, id := range append([]int64{6, 11, 999999}, noIds...) {
		same(t, fmt.Sprint("not in the forest, ", id), impl.FrameTop(forest, id), 0)
	}
	for i := range int64(impl.MaxFrames) {
		same(t, fmt.Sprint("in a chain, ", i+1), impl.FrameTop(deepFrames(impl.MaxFrames), i+1), 1)
	}
	same(t, "of one alone", impl.FrameTop(framesOf("9 0 https://a.com/"), 9), 9)
	same(t, "a Sandbox", impl.FrameTop(framesOf("3 0 https://a.com/", "9 3 https://a.com/ box"), 9), 3)
	same(t, "one within a Sandbox", impl.FrameTop(framesOf("3 0 https://a.com/", "9 3 https://a.com/ box", "10 9 https://a.com/"), 10), 3)
}

func TestFrameOrigins(t *testing.T) {
	cases := []struct {
		what  string
		frame string // behind a top 1 of https://t.com/, and one in it, 2, that is a Sandbox
		want  impl.Origin
	}{
		{"a top", "7 0 https://a.com/", impl.Origin{Scheme: "https", Host: "a.com", Port: 443}},
		{"a top by http", "7 0 http://a.com/", impl.Origin{Scheme: "http", Host: "a.com", Port: 80}},
		{"a top with a port", "7 0 https://a.com:8443/p", impl.Origin{Scheme: "https", Host: "a.com", Port: 8443}},
		{"one within", "7 1 https://x.a.com/p", impl.Origin{Scheme: "https", Host: "x.a.com", Port: 443}},
		{"one of the top's origin", "7 1 https://t.com/p", impl.Origin{Scheme: "https", Host: "t.com", Port: 443}},
		{"one with a Flag, touched", "7 1 https://a.com/ flag 5", impl.Origin{Scheme: "https", Host: "a.com", Port: 443}},
		{"a Sandbox", "7 1 https://a.com/ box", impl.Origin{Nonce: 7}},
		{"a Sandbox of the top's origin", "7 1 https://t.com/ box", impl.Origin{Nonce: 7}},
		{"a Sandbox of another Id", "8 1 https://a.com/ box", impl.Origin{Nonce: 8}},
		{"a Sandbox of MaxTime", "1000000 1 https://a.com/ box", impl.Origin{Nonce: impl.MaxTime}},
		{"a Sandbox with a Flag, touched", "7 1 https://a.com/ box flag 5", impl.Origin{Nonce: 7}},
		{"one within a Sandbox", "7 2 https://a.com/", impl.Origin{Scheme: "https", Host: "a.com", Port: 443}},
		{"one within a Sandbox, of its url", "7 2 https://s.com/", impl.Origin{Scheme: "https", Host: "s.com", Port: 443}},
		{"a Sandbox within a Sandbox", "7 2 https://s.com/ box", impl.Origin{Nonce: 7}},
	}
	for _, c := range cases {
		l := framesOf("1 0 https://t.com/", "2 1 https://s.com/ box", c.frame)
		same(t, c.what, impl.FrameOrigin(l, l[2].Id), c.want)
		same(t, c.what+": right", impl.OriginRight(c.want), true)
		same(t, c.what+": the Sandbox ahead", impl.FrameOrigin(l, 2), impl.Origin{Nonce: 2})
		for _, id := range append([]int64{3, 6, 9}, noIds...) {
			same(t, fmt.Sprint(c.what, ": ", id, " is not there"), impl.FrameOrigin(l, id), impl.Origin{})
		}
	}
	for _, c := range urls {
		same(t, shown(c.url), impl.FrameOrigin([]impl.Frame{{Id: 3, Url: c.url}}, 3), impl.OriginOf(c.url))
	}
}

// thirds: urls each of which lies in the one ahead, and of each whether it is a
// stranger (no, yes), by siteRules.
var thirds = []struct {
	what string
	urls string
	want string
}{
	{"a top alone", "https://a.com/", "n"},
	{"of its url", "https://a.com/ https://a.com/", "nn"},
	{"another path", "https://a.com/ https://a.com/p", "nn"},
	{"another host of the site", "https://a.com/ https://x.a.com/", "nn"},
	{"a host above, of the site", "https://y.x.a.com/ https://a.com/", "nn"},
	{"another port", "https://a.com/ https://a.com:8443/", "nn"},
	{"another site", "https://a.com/ https://b.com/", "ny"},
	{"another scheme", "https://a.com/ http://a.com/", "ny"},
	{"another scheme, in it", "http://a.com/ https://a.com/", "ny"},
	{"another scheme, of one port", "https://a.com/ http://a.com:443/", "ny"},
	{"of one site by http", "http://a.com/ http://x.a.com:8080/", "nn"},
	{"a site that ends with the same letters", "https://a.com/ https://xa.com/", "ny"},
	{"a site that begins the same", "https://a.com/ https://a.com.zz/", "ny"},
	{"another one of the same suffix", "https://shop.co.uk/ https://other.co.uk/", "ny"},
	{"of one domain by a star", "https://shop.co.uk/ https://www.shop.co.uk/", "nn"},
	{"of one domain by an exclamation mark", "https://city.uk/ https://www.city.uk/", "nn"},
	{"a domain and its suffix", "https://shop.co.uk/ https://co.uk/", "ny"},
	{"suffixes", "https://co.uk/ https://ac.uk/", "ny"},
	{"a suffix of itself", "https://co.uk/ https://co.uk/p", "nn"},
	{"all of one site", "https://a.com/ https://x.a.com/ https://y.a.com:81/ https://a.com/p", "nnnn"},
	{"of the top's site within another's", "https://a.com/ https://b.com/ https://a.com/", "nyy"},
	{"of another site within the top's", "https://a.com/ https://a.com/ https://b.com/", "nny"},
	{"of its parent's site, in the top of another", "https://a.com/ https://b.com/ https://b.com/", "nyy"},
	{"of its parent's site by another host", "https://a.com/ https://x.b.com/ https://y.b.com/", "nyy"},
	{"all of sites of their own", "https://a.com/ https://b.com/ https://c.com/", "nyy"},
	{"of the top's site, the other one far ahead", "https://a.com/ https://b.com/ https://a.com/ https://a.com/ https://x.a.com/", "nyyyy"},
	{"another scheme between", "https://a.com/ https://x.a.com/ http://x.a.com/ https://x.a.com/", "nnyy"},
	{"a suffix between", "https://a.com/ https://com/ https://a.com/", "nyy"},
	{"as deep as may be", strings.Repeat("https://a.com/ ", 8) + "https://b.com/ https://a.com/", "nnnnnnnnyy"},
	{"as deep as may be, another at the top", "https://b.com/" + strings.Repeat(" https://a.com/", 9), "nyyyyyyyyy"},
	{"as deep as may be, of one site", "https://a.com/" + strings.Repeat(" https://x.a.com/", 9), "nnnnnnnnnn"},
}

func TestFrameThirds(t *testing.T) {
	for _, c := range thirds {
		texts := strings.Split(c.urls, " ")
		for _, sandbox := range []bool{false, true} {
			l := deepFrames(len(texts))
			for i, text := range texts {
				l[i].Url = pageOf(text)
				// Whether it is a stranger does not hang on that.
				l[i].Sandbox = sandbox && i > 0
				l[i].Flag = sandbox
			}
			for i := range l {
				want := c.want[i] == 'y'
				what := fmt.Sprint(c.what, ", ", i)
				same(t, what, impl.FrameThird(l, siteRules, l[i].Id), want)
				same(t, what+", with none behind", impl.FrameThird(l[:i+1], siteRules, l[i].Id), want)
				same(t, what+": by form", thirdByForm(l, siteRules, l[i].Id), want)
			}
		}
	}
}

// Only what a frame lies in is asked: not what lies in it, or beside it.
func TestFrameThirdsBesideOthers(t *testing.T) {
	l := framesOf("1 0 https://b.com/", "2 0 https://a.com/", "3 2 https://b.com/", "4 2 https://a.com/", "5 4 https://c.com/", "6 3 https://b.com/", "7 2 https://x.a.com/", "8 1 https://b.com/")
	for _, c := range []struct {
		id   int64
		want bool
	}{{1, false}, {2, false}, {3, true}, {4, false}, {5, true}, {6, true}, {7, false}, {8, false}} {
		same(t, fmt.Sprint("beside others, ", c.id), impl.FrameThird(l, siteRules, c.id), c.want)
	}
	for id := range withinForest {
		// In the forest each has one of another site around.
		same(t, fmt.Sprint("in the forest, ", id), impl.FrameThird(forest, siteRules, id), impl.FrameTop(forest, id) != id)
	}
	for _, id := range append([]int64{6, 11, 999999}, noIds...) {
		same(t, fmt.Sprint("not in the forest, ", id), impl.FrameThird(forest, siteRules, id), false)
	}
}

func TestFrameThirdsByOtherRules(t *testing.T) {
	l := framesOf("1 0 https://a.io.com/", "2 1 https://b.io.com/", "3 2 https://c.b.io.com/", "4 1 https://d.a.io.com/")
	cases := []struct {
		rules []string
		want  string
	}{
		{nil, "nnnn"}, {[]string{}, "nnnn"}, {[]string{"com"}, "nnnn"}, {[]string{"io.com"}, "nyyn"}, {siteRules, "nyyn"},
		{[]string{"*.io.com"}, "nyyy"}, {[]string{"b.io.com"}, "nyyn"}, {[]string{"!a.io.com", "*.io.com"}, "nyyn"}, {manyRules(impl.MaxRules), "nnnn"},
	}
	for _, c := range cases {
		for i := range l {
			same(t, fmt.Sprintf("%q, %d", c.rules, i), impl.FrameThird(l, c.rules, l[i].Id), c.want[i] == 'y')
		}
	}
}

// What is not right, too long, or not there has the zero answer.
func TestFramesAroundOfWhatIsWrong(t *testing.T) {
	for _, l := range append(wrongFrames(), manyFrames(impl.MaxList+1), deepFrames(impl.MaxList+1)) {
		for _, id := range []int64{l[0].Id, l[min(len(l)-1, 2)].Id, l[len(l)-1].Id, 1, 2, 3, 7, 0, -1} {
			same(t, shown(l)+": top", impl.FrameTop(l, id), 0)
			same(t, shown(l)+": origin", impl.FrameOrigin(l, id), impl.Origin{})
			same(t, shown(l)+": third", impl.FrameThird(l, siteRules, id), false)
			same(t, shown(l)+": key", impl.FrameKey(l, siteRules, id), "")
		}
	}
	for _, l := range [][]impl.Frame{nil, {}} {
		for _, id := range append([]int64{1, impl.MaxTime}, noIds...) {
			same(t, "of none: top", impl.FrameTop(l, id), 0)
			same(t, "of none: origin", impl.FrameOrigin(l, id), impl.Origin{})
			same(t, "of none: third", impl.FrameThird(l, siteRules, id), false)
			same(t, "of none: key", impl.FrameKey(l, siteRules, id), "")
		}
	}
	for _, rules := range wrongRuleLists {
		for id := range withinForest {
			same(t, shown(rules)+": third", impl.FrameThird(forest, rules, id), false)
			same(t, shown(rules)+": key", impl.FrameKey(forest, rules, id), "")
		}
	}
}

// aroundByForm: those in which a frame lies, up to the top. Of right ones alone.
func aroundByForm(l []impl.Frame, f impl.Frame) []impl.Frame {
	if f.Parent == 0 {
		return nil
	}
	parent := l[placeOfId(l, f.Parent)]
	return append([]impl.Frame{parent}, aroundByForm(l, parent)...)
}

func topByForm(l []impl.Frame, id int64) int64 {
	at := placeOfId(l, id)
	if !framesByForm(l) || at < 0 {
		return 0
	}
	for _, around := range aroundByForm(l, l[at]) {
		id = around.Id
	}
	return id
}

func originByForm(l []impl.Frame, id int64) impl.Origin {
	at := placeOfId(l, id)
	if !framesByForm(l) || at < 0 {
		return impl.Origin{}
	}
	if u := l[at].Url; !l[at].Sandbox {
		return impl.Origin{Scheme: u.Scheme, Host: u.Host, Port: u.Port}
	}
	return impl.Origin{Nonce: id}
}

func thirdByForm(l []impl.Frame, rules []string, id int64) bool {
	at := placeOfId(l, id)
	if !framesByForm(l) || !impl.RulesRight(rules) || at < 0 {
		return false
	}
	for _, around := range aroundByForm(l, l[at]) {
		if impl.SiteOf(rules, around.Url) != impl.SiteOf(rules, l[at].Url) {
			return true
		}
	}
	return false
}

func TestFramesAroundDrawn(t *testing.T) {
	r := rand.New(rand.NewSource(34))
	strangers, inner := 0, 0
	for range 30000 {
		l, rules := someFrames(r), someRules(r)
		id := someId(r, l)
		third := thirdByForm(l, rules, id)
		what := fmt.Sprintf("%+v, %q, %d", l, rules, id)
		same(t, what+": top", impl.FrameTop(l, id), topByForm(l, id))
		same(t, what+": origin", impl.FrameOrigin(l, id), originByForm(l, id))
		same(t, what+": third", impl.FrameThird(l, rules, id), third)
		same(t, what+": key", impl.FrameKey(l, rules, id), keyByForm(l, rules, id))
		if t.Failed() {
			t.FailNow()
		}
		if third {
			strangers++
		} else if top := topByForm(l, id); top != id && top != 0 {
			inner++
		}
	}
	if strangers < 2000 || inner < 1000 {
		t.Errorf("%d strangers, %d within that are none: this tells little", strangers, inner)
	}
}

func TestFramesAroundAreNewMemory(t *testing.T) {
	for _, l := range [][]impl.Frame{manyFrames(1), deepFrames(4), framesAround(aFrame), forest, manyFrames(impl.MaxFrames + 1)} {
		for _, id := range []int64{0, 1, 2, 3, 4, 7, 9, impl.MaxTime} {
			var b inBytes
			held := b.frames(l)
			rules := []string{b.text("com"), b.text("uk"), "other"}
			what := fmt.Sprint(len(l), " frames, ", id)
			same(t, what+": top", impl.FrameTop(held, id), topByForm(l, id))
			same(t, what+": third", impl.FrameThird(held, rules[:2:3], id), thirdByForm(l, rules[:2], id))
			origin, key := impl.FrameOrigin(held, id), impl.FrameKey(held, rules[:2:3], id)
			sameFramesBehind(t, held, l)
			sameList(t, "the rules handed in", rules, []string{"com", "uk", "other"})
			b.turn()
			clear(held)
			same(t, what+": origin, behind the call", origin, originByForm(l, id))
			same(t, what+": key, behind the call", key, keyByForm(l, []string{"com", "uk"}, id))
		}
	}
}
