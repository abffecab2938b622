package tests

import (
	"fmt"
	"math/rand"
	"testing"

	"loop.example/g00551/impl"
)

// Promise 16: frames of one key are of one origin; a sandbox shares its key with
// nobody.

func TestFrameKeys(t *testing.T) {
	// Each in the top 1 of https://a.com/, 2 in it of https://b.com/, or 3, a top
	// of http://b.com:8080/.
	ahead := []string{"1 0 https://a.com/", "2 1 https://b.com/", "3 0 http://b.com:8080/"}
	cases := []struct {
		what  string
		frame string
		want  string
	}{
		{"a top", "7 0 https://c.com/", "https://c.com^https://c.com"},
		{"a top by http", "7 0 http://c.com/", "http://c.com^http://c.com"},
		{"a top of a host with labels ahead", "7 0 https://x.c.com/", "https://x.c.com^https://c.com"},
		{"a top with a port", "7 0 https://c.com:8443/p", "https://c.com:8443^https://c.com"},
		{"a top that is a suffix", "7 0 https://co.uk/", "https://co.uk^https://co.uk"},
		{"a top by a star", "7 0 https://www.shop.co.uk/", "https://www.shop.co.uk^https://shop.co.uk"},
		{"of the top's url", "7 1 https://a.com/", "https://a.com^https://a.com"},
		{"of the top's origin", "7 1 https://a.com/p", "https://a.com^https://a.com"},
		{"of the top's site", "7 1 https://x.a.com/", "https://x.a.com^https://a.com"},
		{"of the top's site, by a port", "7 1 https://a.com:8443/", "https://a.com:8443^https://a.com"},
		{"of the top's site but for the scheme", "7 1 http://a.com/", "http://a.com^https://a.com!"},
		{"a stranger", "7 1 https://x.b.com/p", "https://x.b.com^https://a.com!"},
		{"a stranger with a Flag, touched", "7 1 https://x.b.com/p flag 5", "https://x.b.com^https://a.com!"},
		{"within a stranger", "7 2 https://x.b.com/p", "https://x.b.com^https://a.com!"},
		{"of the top's url within a stranger", "7 2 https://a.com/", "https://a.com^https://a.com!"},
		{"a Sandbox of the top's url", "7 1 https://a.com/ box", "null#7^https://a.com"},
		{"a Sandbox of the top's site", "7 1 https://x.a.com:8443/ box", "null#7^https://a.com"},
		{"a Sandbox that is a stranger", "7 1 https://b.com/ box", "null#7^https://a.com!"},
		{"a Sandbox of the top's url within a stranger", "7 2 https://a.com/ box", "null#7^https://a.com!"},
		{"a Sandbox of another Id", "12 2 https://a.com/ box", "null#12^https://a.com!"},
		{"a Sandbox of MaxTime", "1000000 1 https://a.com/ box", "null#1000000^https://a.com"},
		{"of the other top's site", "7 3 http://x.b.com/", "http://x.b.com^http://b.com"},
		{"of the other top's origin", "7 3 http://b.com:8080/p", "http://b.com:8080^http://b.com"},
		{"a stranger in the other top", "7 3 https://a.com/", "https://a.com^http://b.com!"},
	}
	for _, c := range cases {
		l := append(framesOf(ahead...), framesOf(c.frame)...)
		same(t, c.what, impl.FrameKey(l, siteRules, l[3].Id), c.want)
		same(t, c.what+": by form", keyByForm(l, siteRules, l[3].Id), c.want)
		for _, id := range append([]int64{4, 6, 13}, noIds...) {
			same(t, fmt.Sprint(c.what, ": ", id, " is not there"), impl.FrameKey(l, siteRules, id), "")
		}
	}
}

func TestFrameKeysInTheForest(t *testing.T) {
	keys := map[int64]string{
		1: "https://a.com^https://a.com", 2: "https://b.com^https://b.com", 3: "https://b.com^https://a.com!", 4: "null#4^https://b.com!",
		5: "http://a.com^https://a.com!", 7: "https://a.com^https://a.com!", 8: "https://b.com^https://b.com!", 9: "null#9^https://a.com!",
		10: "https://c.com^https://a.com!", 1000000: "https://a.com^https://a.com",
	}
	same(t, "all of it", len(keys), len(forest))
	for id, key := range keys {
		same(t, fmt.Sprint("in the forest, ", id), impl.FrameKey(forest, siteRules, id), key)
	}
	u := impl.Url{Scheme: "https", Host: longestHost, Port: 65535, Path: longestPath}
	l := []impl.Frame{{Id: 1, Url: u}, {Id: 2, Parent: 1, Url: pageOf("http://a.com/")}, {Id: 3, Parent: 2, Url: u}}
	long := []string{longestHost[len("abcdefghijkl."):]}
	same(t, "as long as may be", impl.FrameKey(l, long, 3), "https://"+longestHost+":65535^https://"+longestHost+"!")
}

func TestFrameKeysByOtherRules(t *testing.T) {
	l := framesOf("1 0 https://a.io.com/", "2 1 https://b.io.com/p")
	same(t, "no rules: the top", impl.FrameKey(l, nil, 1), "https://a.io.com^https://io.com")
	same(t, "no rules", impl.FrameKey(l, nil, 2), "https://b.io.com^https://io.com")
	same(t, "an empty list", impl.FrameKey(l, []string{}, 2), "https://b.io.com^https://io.com")
	same(t, "a rule: the top", impl.FrameKey(l, []string{"io.com"}, 1), "https://a.io.com^https://a.io.com")
	same(t, "a rule", impl.FrameKey(l, []string{"io.com"}, 2), "https://b.io.com^https://a.io.com!")
}

// Two of which the keys are one, or are not.
func TestFrameKeysOfTwo(t *testing.T) {
	l := framesOf("1 0 https://a.com/", "2 1 https://b.com/", "3 2 https://a.com/", "4 1 https://a.com/p", "5 2 https://b.com/p", "6 1 https://a.com/ box", "7 1 https://x.a.com/",
		"8 0 https://x.a.com:8443/", "9 8 https://b.com/q", "10 8 https://a.com/")
	other := framesOf("1 0 https://c.com/", "2 1 https://b.com/", "3 1 https://a.com/")
	key := func(id int64) string { return impl.FrameKey(l, siteRules, id) }
	for _, c := range []struct {
		what string
		a, b int64
		one  bool
	}{
		{"another path alone", 1, 4, true},
		{"strangers, one in the other", 2, 5, true},
		{"strangers in pages of one site", 2, 9, true},
		{"in pages of one site", 1, 10, true},
		{"one of them is a stranger", 3, 4, false},
		{"one of them is a stranger, the other one the top", 1, 3, false},
		{"another origin of the site", 4, 7, false},
		{"another port", 7, 8, false},
		{"another site", 3, 5, false},
		{"a Sandbox of the url", 1, 6, false},
	} {
		same(t, c.what, key(c.a) == key(c.b), c.one)
		same(t, c.what+": one is told", key(c.a) != "" && key(c.b) != "", true)
	}
	same(t, "in a page of another site", key(2) == impl.FrameKey(other, siteRules, 2), false)
	same(t, "in a page of another site, of the first one's", key(3) == impl.FrameKey(other, siteRules, 3), false)
}

// keyByForm: one sentence of the document after the other.
func keyByForm(l []impl.Frame, rules []string, id int64) string {
	if !framesByForm(l) || !impl.RulesRight(rules) || placeOfId(l, id) < 0 {
		return ""
	}
	top := l[placeOfId(l, topByForm(l, id))]
	key := impl.OriginText(originByForm(l, id)) + "^" + impl.SiteOf(rules, top.Url)
	if thirdByForm(l, rules, id) {
		key += "!"
	}
	return key
}

// The promise, of each two of many.
func TestFrameKeysDrawn(t *testing.T) {
	r := rand.New(rand.NewSource(35))
	shared, boxes := 0, 0
	for range 6000 {
		l, rules := someFrames(r), someRules(r)
		right := framesByForm(l) && impl.RulesRight(rules)
		for i, f := range l {
			key := impl.FrameKey(l, rules, f.Id)
			same(t, fmt.Sprintf("%+v, %q, %d: is there a key", l, rules, f.Id), key != "", right)
			for _, g := range l[i+1:] {
				if !right || impl.FrameKey(l, rules, g.Id) != key {
					continue
				}
				shared++
				same(t, fmt.Sprintf("%+v, %q: %d and %d", l, rules, f.Id, g.Id), impl.OriginSame(impl.FrameOrigin(l, f.Id), impl.FrameOrigin(l, g.Id)), true)
				same(t, fmt.Sprintf("%+v, %q: %d and %d, boxes", l, rules, f.Id, g.Id), f.Sandbox || g.Sandbox, false)
			}
			if right && f.Sandbox {
				boxes++
			}
		}
		if t.Failed() {
			t.FailNow()
		}
	}
	if shared < 1000 || boxes < 1000 {
		t.Errorf("%d keys are shared, of %d boxes: this tells little", shared, boxes)
	}
}
