package tests

import (
	"fmt"
	"math/rand"
	"slices"
	"testing"

	"loop.example/g00551/impl"
)

// Which Grants are live, which are old, and what is dropped of them.

// someLeave: three Tops, of which one begins another, and Sites of one that are
// Sites or Tops of others, too.
var someLeave = grantsOf("a s 9", "a ss 10", "aa a 11", "aa s 10", "k a 0", "k k 1000000")

// leaveWithout: what is in someLeave but at these places.
func leaveWithout(gone ...int) []impl.Grant {
	var l []impl.Grant
	for i, g := range someLeave {
		if !slices.Contains(gone, i) {
			l = append(l, g)
		}
	}
	return l
}

// notGiven: what is right, and of which there is none in someLeave.
var notGiven = []impl.Grant{
	{Top: "a", Site: "a"}, {Top: "a", Site: "sss"}, {Top: "a", Site: "r"}, {Top: "a", Site: "S"}, {Top: "a", Site: "as"}, {Top: "A", Site: "s"},
	{Top: "aa", Site: "ss"}, {Top: "aa", Site: "aa"}, {Top: "aaa", Site: "s"}, {Top: "b", Site: "s"}, {Top: "k", Site: "s"}, {Top: "kk", Site: "k"},
	{Top: "s", Site: "a"}, {Top: "ss", Site: "a"}, {Top: "s", Site: "aa"}, {Top: "a", Site: "k"}, {Top: "as", Site: "s"},
	{Top: longestSite, Site: "s"}, {Top: "a", Site: longestSite}, {Top: longestSite, Site: longestSite},
}

func TestGrantsThatAreLive(t *testing.T) {
	same(t, "they are right", impl.GrantsRight(someLeave), true)
	times := []int64{0, 1, 8, 9, 10, 11, 12, impl.MaxTime - 1, impl.MaxTime}
	for _, now := range times {
		for _, g := range someLeave {
			same(t, shown(g)+fmt.Sprint(" at ", now), impl.GrantLive(someLeave, g.Top, g.Site, now), g.Until > now)
		}
		for _, g := range notGiven {
			same(t, shown(g)+fmt.Sprint(" at ", now), impl.GrantLive(someLeave, g.Top, g.Site, now), false)
			same(t, shown(g)+": none", impl.GrantLive(nil, g.Top, g.Site, now), false)
			same(t, shown(g)+": an empty list", impl.GrantLive([]impl.Grant{}, g.Top, g.Site, now), false)
		}
	}
	cases := []struct {
		what string
		l    []impl.Grant
		live bool
	}{
		{"an Until below now", grantsOf("t s 9"), false},
		{"an Until of now", grantsOf("t s 10"), false},
		{"an Until of one more", grantsOf("t s 11"), true},
		{"an Until of 0", grantsOf("t s 0"), false},
		{"one of the Top alone", grantsOf("t r 50"), false},
		{"one of the Site alone", grantsOf("r s 50"), false},
		{"one of the Top, one of the Site", grantsOf("r s 50", "t r 50"), false},
		{"one of both turned", grantsOf("s t 50"), false},
		{"the one of both is old, others are not", grantsOf("r s 50", "t r 50", "t s 10", "t t 50"), false},
		{"the one of both is not old, others are", grantsOf("r s 1", "t r 1", "t s 11", "t t 1"), true},
	}
	for _, c := range cases {
		same(t, c.what, impl.GrantLive(c.l, "t", "s", 10), c.live)
	}
	edge := []impl.Grant{{Top: longestSite, Site: longestSite, Until: impl.MaxTime}}
	same(t, "as long as may be", impl.GrantLive(edge, longestSite, longestSite, impl.MaxTime-1), true)
	same(t, "as late as may be", impl.GrantLive(edge, longestSite, longestSite, impl.MaxTime), false)
	full := manyGrants(impl.MaxGrants)
	for _, g := range full {
		same(t, "of as many as may be", impl.GrantLive(full, g.Top, g.Site, g.Until-1), true)
		same(t, "of as many as may be, old", impl.GrantLive(full, g.Top, g.Site, g.Until), false)
	}
}

func TestGrantDrops(t *testing.T) {
	for at, g := range someLeave {
		left := impl.GrantDrop(someLeave, g.Top, g.Site)
		sameGrants(t, shown(g), left, leaveWithout(at))
		sameGrants(t, shown(g)+": anew", impl.GrantDrop(left, g.Top, g.Site), leaveWithout(at))
		same(t, shown(g)+": no more live", impl.GrantLive(left, g.Top, g.Site, 0), false)
	}
	for _, g := range notGiven {
		sameGrants(t, shown(g), impl.GrantDrop(someLeave, g.Top, g.Site), someLeave)
		sameGrants(t, shown(g)+": none", impl.GrantDrop(nil, g.Top, g.Site), nil)
		sameGrants(t, shown(g)+": an empty list", impl.GrantDrop([]impl.Grant{}, g.Top, g.Site), nil)
	}
	sameGrants(t, "the only one", impl.GrantDrop([]impl.Grant{aGrant}, aGrant.Top, aGrant.Site), nil)
	edge := []impl.Grant{{Top: longestSite, Site: longestSite, Until: impl.MaxTime}}
	sameGrants(t, "as long as may be", impl.GrantDrop(edge, longestSite, longestSite), nil)
	full := manyGrants(impl.MaxGrants)
	for at, g := range full {
		sameGrants(t, "of as many as may be", impl.GrantDrop(full, g.Top, g.Site), slices.Delete(slices.Clone(full), at, at+1))
	}
}

func TestGrantsThatAreOld(t *testing.T) {
	cases := []struct {
		now  int64
		left []impl.Grant
	}{
		{0, leaveWithout(4)}, {1, leaveWithout(4)}, {8, leaveWithout(4)},
		{9, leaveWithout(0, 4)}, {10, leaveWithout(0, 1, 3, 4)},
		{11, leaveWithout(0, 1, 2, 3, 4)}, {12, leaveWithout(0, 1, 2, 3, 4)}, {impl.MaxTime - 1, leaveWithout(0, 1, 2, 3, 4)}, {impl.MaxTime, nil},
	}
	for _, c := range cases {
		sameGrants(t, fmt.Sprint("at ", c.now), impl.GrantOld(someLeave, c.now), c.left)
		sameGrants(t, fmt.Sprint("at ", c.now, ": none"), impl.GrantOld(nil, c.now), nil)
		sameGrants(t, fmt.Sprint("at ", c.now, ": an empty list"), impl.GrantOld([]impl.Grant{}, c.now), nil)
	}
	full := manyGrants(impl.MaxGrants)
	for i := range impl.MaxGrants + 1 {
		// Of them the Until is 100 and more, one by one.
		sameGrants(t, fmt.Sprint("of as many as may be, ", i), impl.GrantOld(full, int64(99+i)), full[i:])
	}
}

// What is not right, or too long, has the zero answer.
func TestGrantsOfWhatIsWrong(t *testing.T) {
	check := func(what string, l []impl.Grant, top string, site string, now int64) {
		t.Helper()
		same(t, what+": live", impl.GrantLive(l, top, site, now), false)
	}
	for _, l := range append(wrongGrants(), manyGrants(impl.MaxList+1)) {
		for _, g := range append(slices.Clone(l[:min(len(l), 9)]), aGrant) {
			check(shown(l), l, g.Top, g.Site, 0)
			sameGrants(t, shown(l)+": drop", impl.GrantDrop(l, g.Top, g.Site), nil)
		}
		sameGrants(t, shown(l)+": drop of what is not there", impl.GrantDrop(l, "none", "none"), nil)
		for _, now := range []int64{0, 50, impl.MaxTime, -1} {
			sameGrants(t, shown(l)+": old", impl.GrantOld(l, now), nil)
		}
	}
	for _, site := range append([]string{tooLong}, wrongSites...) {
		for _, l := range [][]impl.Grant{nil, {aGrant}, manyGrants(impl.MaxGrants), {{Top: site, Site: "s", Until: 50}}, {{Top: "t", Site: site, Until: 50}}} {
			check("Top "+shown(site), l, site, "s", 0)
			check("Site "+shown(site), l, "t", site, 0)
			check("both "+shown(site), l, site, site, 0)
			sameGrants(t, "Top "+shown(site)+": drop", impl.GrantDrop(l, site, aGrant.Site), nil)
			sameGrants(t, "Site "+shown(site)+": drop", impl.GrantDrop(l, aGrant.Top, site), nil)
			sameGrants(t, "both "+shown(site)+": drop", impl.GrantDrop(l, site, site), nil)
		}
	}
	for _, now := range wrongTimes {
		for _, g := range someLeave {
			check(fmt.Sprint("now ", now), someLeave, g.Top, g.Site, now)
		}
		sameGrants(t, fmt.Sprint("now ", now, ": old"), impl.GrantOld(someLeave, now), nil)
	}
}

func TestGrantsLiveDrawn(t *testing.T) {
	r := rand.New(rand.NewSource(21))
	lives, drops := 0, 0
	for range 20000 {
		l, top, site, now := someGrants(r), someTop(r), someSite(r), someTime(r)
		live := false
		var left, young []impl.Grant
		for _, g := range l {
			both := g.Top == top && g.Site == site
			live = live || both && g.Until > now
			if !both {
				left = append(left, g)
			}
			if g.Until > now {
				young = append(young, g)
			}
		}
		if !grantsByForm(l) || !siteByForm(top) || !siteByForm(site) {
			left, live = nil, false
		}
		if !grantsByForm(l) || !timeByForm(now) {
			young, live = nil, false
		}
		what := fmt.Sprintf("%+v, %q, %q, %d", l, top, site, now)
		same(t, what+": live", impl.GrantLive(l, top, site, now), live)
		sameGrants(t, what+": drop", impl.GrantDrop(l, top, site), left)
		sameGrants(t, what+": old", impl.GrantOld(l, now), young)
		if t.Failed() {
			t.FailNow()
		}
		if live {
			lives++
		}
		if len(left) > 0 && len(left) < len(l) {
			drops++
		}
	}
	if lives < 1000 || drops < 1000 {
		t.Errorf("%d are live, of %d one is dropped: this tells little", lives, drops)
	}
}

func TestGrantsLeftAreNewMemory(t *testing.T) {
	for _, g := range append(slices.Clone(someLeave), notGiven...) {
		for _, now := range []int64{0, 10, impl.MaxTime, -1} {
			var b inBytes
			held := b.grants(someLeave)
			top, site := b.text(g.Top), b.text(g.Site)
			left, young := impl.GrantDrop(held, top, site), impl.GrantOld(held, now)
			impl.GrantLive(held, top, site, now)
			sameGrantsBehind(t, held, someLeave)
			b.turn()
			clear(held)
			sameGrants(t, shown(g)+": drop, behind the call", left, impl.GrantDrop(someLeave, g.Top, g.Site))
			sameGrants(t, fmt.Sprint(now, ": old, behind the call"), young, impl.GrantOld(someLeave, now))
			ownGrants(t, left, held)
			ownGrants(t, young, held)
		}
	}
}
