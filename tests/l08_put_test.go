package tests

import (
	"fmt"
	"math/rand"
	"slices"
	"strings"
	"testing"

	"loop.example/g00551/impl"
)

// What is granted is live for its while (promise 14).

func TestGrantPuts(t *testing.T) {
	cases := []struct {
		what string
		l    []string
		want []string
	}{
		{"into none", nil, []string{"k s 40"}},
		{"ahead, another Top", []string{"l a 50", "m a 51"}, []string{"k s 40", "l a 50", "m a 51"}},
		{"ahead, that Top", []string{"k t 50", "k u 51"}, []string{"k s 40", "k t 50", "k u 51"}},
		{"between, another Top", []string{"j z 50", "l a 51"}, []string{"j z 50", "k s 40", "l a 51"}},
		{"between, that Top", []string{"k r 50", "k t 51"}, []string{"k r 50", "k s 40", "k t 51"}},
		{"between, the first of that Top", []string{"j z 50", "k t 51"}, []string{"j z 50", "k s 40", "k t 51"}},
		{"between, the last of that Top", []string{"k r 50", "l a 51"}, []string{"k r 50", "k s 40", "l a 51"}},
		{"behind, another Top", []string{"i z 50", "j z 51"}, []string{"i z 50", "j z 51", "k s 40"}},
		{"behind, that Top", []string{"k q 50", "k r 51"}, []string{"k q 50", "k r 51", "k s 40"}},
		{"a Top that begins another", []string{"kk a 50"}, []string{"k s 40", "kk a 50"}},
		{"a Site that begins another", []string{"k ss 50"}, []string{"k s 40", "k ss 50"}},
		{"a Site that another begins", []string{"k r 50", "k rr 51"}, []string{"k r 50", "k rr 51", "k s 40"}},
		{"both turned", []string{"s k 50"}, []string{"k s 40", "s k 50"}},
		{"together alike", []string{"ks s 50"}, []string{"k s 40", "ks s 50"}},
		{"capitals ahead", []string{"K s 50", "k S 51"}, []string{"K s 50", "k S 51", "k s 40"}},
		{"one of both, live", []string{"k s 20"}, []string{"k s 40"}},
		{"one of both, live for one more", []string{"k s 11"}, []string{"k s 40"}},
		{"one of both, just put", []string{"k s 40"}, []string{"k s 40"}},
		{"one of both, live for longer", []string{"k s 1000000"}, []string{"k s 40"}},
		{"one of both, of now", []string{"k s 10"}, []string{"k s 40"}},
		{"one of both, below now", []string{"k s 9"}, []string{"k s 40"}},
		{"one of both, of 0", []string{"k s 0"}, []string{"k s 40"}},
		{"one of both, ahead", []string{"k s 20", "k t 50", "l a 51"}, []string{"k s 40", "k t 50", "l a 51"}},
		{"one of both, between", []string{"k r 50", "k s 20", "k t 51"}, []string{"k r 50", "k s 40", "k t 51"}},
		{"one of both, behind", []string{"j a 50", "k r 51", "k s 20"}, []string{"j a 50", "k r 51", "k s 40"}},
		{"others go, below now", []string{"a a 9", "k a 9", "k z 9", "l a 9"}, []string{"k s 40"}},
		{"others go, of now", []string{"a a 10", "k a 10", "k z 10", "l a 10"}, []string{"k s 40"}},
		{"others stay, of one more", []string{"a a 11", "k a 11", "k z 11", "l a 11"}, []string{"a a 11", "k a 11", "k s 40", "k z 11", "l a 11"}},
		{"some go", []string{"a a 11", "a b 10", "b a 1000000", "k a 0", "k z 40", "l a 9", "m a 12"}, []string{"a a 11", "b a 1000000", "k s 40", "k z 40", "m a 12"}},
		{"some go, one of both", []string{"a a 0", "a b 11", "k s 10", "k t 5", "m a 12"}, []string{"a b 11", "k s 40", "m a 12"}},
		{"the first goes", []string{"a a 1", "b a 50"}, []string{"b a 50", "k s 40"}},
		{"the last goes", []string{"l a 50", "m a 1"}, []string{"k s 40", "l a 50"}},
	}
	for _, c := range cases {
		got := impl.GrantPut(grantsOf(c.l...), "k", "s", 10)
		sameGrantOut(t, c.what, got, impl.GrantOut{Grants: grantsOf(c.want...)})
		same(t, c.what+": right", impl.GrantsRight(got.Grants), true)
	}
	sameGrantOut(t, "an empty list", impl.GrantPut([]impl.Grant{}, "k", "s", 10), impl.GrantOut{Grants: grantsOf("k s 40")})
}

func TestGrantPutsByTexts(t *testing.T) {
	texts := []string{"s", "\x00", "\xff\n ", "http://a.com", "https://a.com", longestSite, strings.Repeat("é", 60)}
	for _, top := range texts {
		for _, site := range texts {
			want := impl.GrantOut{Grants: []impl.Grant{{Top: top, Site: site, Until: 35}}}
			sameGrantOut(t, shown(want), impl.GrantPut(nil, top, site, 5), want)
		}
	}
}

// What is put is live from now on, for GrantLife, but not beyond MaxTime.
func TestGrantPutsByTime(t *testing.T) {
	cases := []struct {
		now   int64
		until int64
	}{
		{0, 30}, {1, 31}, {10, 40}, {impl.MaxTime - 31, impl.MaxTime - 1}, {impl.MaxTime - 30, impl.MaxTime},
		{impl.MaxTime - 29, impl.MaxTime}, {impl.MaxTime - 1, impl.MaxTime}, {impl.MaxTime, impl.MaxTime},
	}
	for _, c := range cases {
		what := fmt.Sprint("at ", c.now)
		last := min(c.now+1, impl.MaxTime)
		var others, live []impl.Grant
		for i, until := range []int64{0, c.now, last, impl.MaxTime} {
			others = append(others, impl.Grant{Top: "a", Site: fmt.Sprint(i), Until: until})
			if until > c.now {
				live = append(live, others[i])
			}
		}
		for _, g := range []impl.Grant{{Top: "a", Site: "z"}, {Top: "b", Site: "a"}} {
			g.Until = c.until
			got := impl.GrantPut(others, g.Top, g.Site, c.now)
			sameGrantOut(t, what, got, impl.GrantOut{Grants: append(slices.Clone(live), g)})
			for now := c.now; now <= min(c.until+2, impl.MaxTime); now++ {
				same(t, what+fmt.Sprint(": live at ", now), impl.GrantLive(got.Grants, g.Top, g.Site, now), now < c.until)
			}
		}
	}
	for _, now := range wrongTimes {
		for _, l := range [][]impl.Grant{nil, {aGrant}, manyGrants(impl.MaxGrants)} {
			sameGrantOut(t, fmt.Sprint("at ", now), impl.GrantPut(l, "k", "s", now), impl.GrantOut{Code: impl.ErrForm})
		}
	}
}

func TestGrantPutsByCount(t *testing.T) {
	for count := range impl.MaxGrants + 1 {
		// Until 100 and more, one by one: so many of them are old at 99 and more.
		l := manyGrants(count)
		for old := range count + 1 {
			now := int64(99 + old)
			what := fmt.Sprint(old, " of ", count, " are old")
			put := impl.Grant{Top: "z", Site: "s", Until: now + 30}
			want := impl.GrantOut{Grants: append(slices.Clone(l[old:]), put)}
			if count-old == impl.MaxGrants {
				want = impl.GrantOut{Code: impl.ErrFull}
			}
			sameGrantOut(t, what+": behind", impl.GrantPut(l, "z", "s", now), want)
			put.Top = "a"
			want.Grants = slices.Insert(slices.Clone(l[old:]), 0, put)
			if count-old == impl.MaxGrants {
				want = impl.GrantOut{Code: impl.ErrFull}
			}
			sameGrantOut(t, what+": ahead", impl.GrantPut(l, "a", "s", now), want)
			for at, g := range l {
				g.Until = now + 30
				rest := slices.Clone(l[old:])
				if at >= old {
					rest[at-old] = g
				} else {
					rest = slices.Insert(rest, 0, g)
				}
				sameGrantOut(t, what+fmt.Sprint(": anew at ", at), impl.GrantPut(l, g.Top, g.Site, now), impl.GrantOut{Grants: rest})
			}
		}
	}
}

// grantArgs: what GrantPut is given.
type grantArgs struct {
	l    []impl.Grant
	top  string
	site string
	now  int64
}

func (a grantArgs) put() impl.GrantOut {
	return impl.GrantPut(a.l, a.top, a.site, a.now)
}

// grantFaults: in the order in which they are named; of is what they turn.
var grantFaults = []struct {
	what string
	code int64
	of   string
	turn func(a *grantArgs)
}{
	{"a list too long", impl.ErrSize, "l", func(a *grantArgs) { a.l = manyGrants(impl.MaxList + 1) }},
	{"a top too long", impl.ErrSize, "top", func(a *grantArgs) { a.top = tooLong }},
	{"a site too long", impl.ErrSize, "site", func(a *grantArgs) { a.site = tooLong }},
	{"as many as a list may have", impl.ErrForm, "l", func(a *grantArgs) { a.l = manyGrants(impl.MaxList) }},
	{"one grant too many", impl.ErrForm, "l", func(a *grantArgs) { a.l = manyGrants(impl.MaxGrants + 1) }},
	{"one grant too many, all old", impl.ErrForm, "l", func(a *grantArgs) {
		a.l = manyGrants(impl.MaxGrants + 1)
		for i := range a.l {
			a.l[i].Until = 0
		}
	}},
	{"a grant that is not right", impl.ErrForm, "l", func(a *grantArgs) { a.l = make([]impl.Grant, 1) }},
	{"grants that fall", impl.ErrForm, "l", func(a *grantArgs) { a.l = grantsOf("b s 50", "a s 50") }},
	{"no top", impl.ErrForm, "top", func(a *grantArgs) { a.top = "" }},
	{"a top of 121 bytes", impl.ErrForm, "top", func(a *grantArgs) { a.top = longestSite + "x" }},
	{"a top of MaxBytes bytes", impl.ErrForm, "top", func(a *grantArgs) { a.top = tooLong[1:] }},
	{"no site", impl.ErrForm, "site", func(a *grantArgs) { a.site = "" }},
	{"a site of 121 bytes", impl.ErrForm, "site", func(a *grantArgs) { a.site = longestSite + "x" }},
	{"a site of MaxBytes bytes", impl.ErrForm, "site", func(a *grantArgs) { a.site = tooLong[1:] }},
	{"a now below 0", impl.ErrForm, "now", func(a *grantArgs) { a.now = -1 }},
	{"a now above MaxTime", impl.ErrForm, "now", func(a *grantArgs) { a.now = impl.MaxTime + 1 }},
	{"a now far above MaxTime", impl.ErrForm, "now", func(a *grantArgs) { a.now = 1<<63 - 1 }},
	{"as many as may be", impl.ErrFull, "l top site now", func(a *grantArgs) { a.l = manyGrants(impl.MaxGrants) }},
}

// Each fault by itself, and two at once: the first one is told, and nothing
// else beside it.
func TestGrantPutFaultsInTheirOrder(t *testing.T) {
	begin := grantArgs{manyGrants(3), "k", "s", 10}
	same(t, "no fault", begin.put().Code, impl.OK)
	for i, first := range grantFaults {
		a := begin
		first.turn(&a)
		sameGrantOut(t, first.what, a.put(), impl.GrantOut{Code: first.code})
		for _, second := range grantFaults[i+1:] {
			if strings.Fields(first.of)[0] == strings.Fields(second.of)[0] {
				// They turn the same thing: the first one would be gone.
				continue
			}
			b := a
			second.turn(&b)
			sameGrantOut(t, first.what+", "+second.what, b.put(), impl.GrantOut{Code: first.code})
		}
	}
}

func TestGrantPutsOfWhatIsWrong(t *testing.T) {
	form := impl.GrantOut{Code: impl.ErrForm}
	for _, l := range wrongGrants() {
		sameGrantOut(t, shown(l), impl.GrantPut(l, "k", "s", 10), form)
		sameGrantOut(t, shown(l)+": one of both", impl.GrantPut(l, l[0].Top[:min(len(l[0].Top), impl.MaxBytes)], "s", 10), form)
		sameGrantOut(t, shown(l)+": as late as may be", impl.GrantPut(l, "k", "s", impl.MaxTime), form)
	}
	for _, l := range [][]impl.Grant{nil, {aGrant}, manyGrants(3), manyGrants(impl.MaxGrants)} {
		for _, site := range wrongSites {
			sameGrantOut(t, "Top "+shown(site), impl.GrantPut(l, site, "s", 10), form)
			sameGrantOut(t, "Site "+shown(site), impl.GrantPut(l, "k", site, 10), form)
			sameGrantOut(t, "both "+shown(site), impl.GrantPut(l, site, site, 10), form)
		}
	}
	// A field is not handed in as such.
	for _, g := range []impl.Grant{{Top: tooLong, Site: "s"}, {Top: "t", Site: tooLong}} {
		sameGrantOut(t, "a field too long", impl.GrantPut([]impl.Grant{g}, "k", "s", 10), form)
	}
}

// grantPutByForm: one sentence of the document after the other.
func grantPutByForm(l []impl.Grant, top string, site string, now int64) impl.GrantOut {
	if !grantsByForm(l) || !siteByForm(top) || !siteByForm(site) || !timeByForm(now) {
		return impl.GrantOut{Code: impl.ErrForm}
	}
	then := slices.DeleteFunc(slices.Clone(l), func(g impl.Grant) bool { return g.Until <= now })
	at := slices.IndexFunc(then, func(g impl.Grant) bool { return g.Top == top && g.Site == site })
	if len(then) == 8 && at < 0 {
		return impl.GrantOut{Code: impl.ErrFull}
	}
	if at < 0 {
		at = len(then)
		then = append(then, impl.Grant{Top: top, Site: site})
	}
	then[at].Until = now + 30
	if now > 1000000-30 {
		then[at].Until = 1000000
	}
	slices.SortFunc(then, func(a impl.Grant, b impl.Grant) int {
		return slices.Compare([]string{a.Top, a.Site}, []string{b.Top, b.Site})
	})
	return impl.GrantOut{Grants: then}
}

func TestGrantPutsDrawn(t *testing.T) {
	r := rand.New(rand.NewSource(22))
	codes := map[int64]int{}
	for range 30000 {
		l, top, site, now := someGrants(r), someTop(r), someSite(r), someTime(r)
		got, want := impl.GrantPut(l, top, site, now), grantPutByForm(l, top, site, now)
		codes[got.Code]++
		if got.Code != want.Code || got.Used || !slices.Equal(got.Grants, want.Grants) {
			t.Fatalf("%+v, %q, %q, %d: got %+v, want %+v", l, top, site, now, got, want)
		}
	}
	for _, code := range []int64{impl.OK, impl.ErrForm, impl.ErrFull} {
		if codes[code] < 1000 {
			t.Errorf("code %d is told %d times: this tells little", code, codes[code])
		}
	}
}

// leaveModel: until when each Site has leave in pages of each Top, as plain as
// may be. What is old stays in it: it is not asked.
type leaveModel map[[2]string]int64

func (m leaveModel) check(t *testing.T, l []impl.Grant, now int64) {
	t.Helper()
	same(t, "right", impl.GrantsRight(l), true)
	for _, top := range grantTops {
		for _, site := range grantSites {
			what := fmt.Sprint(top, " ", site, " at ", now)
			same(t, what, impl.GrantLive(l, top, site, now), m[[2]string{top, site}] > now)
		}
	}
}

func (m leaveModel) live(now int64) int {
	count := 0
	for _, until := range m {
		if until > now {
			count++
		}
	}
	return count
}

// The promise: one act behind the other, as time goes by, held against a model.
func TestGrantsOneByOne(t *testing.T) {
	r := rand.New(rand.NewSource(23))
	codes := map[int64]int{}
	for range 100 {
		var l []impl.Grant
		model := leaveModel{}
		now := int64(r.Intn(100))
		for range 80 {
			now += int64(r.Intn(5))
			top, site := oneOf(r, grantTops), oneOf(r, grantSites)
			place := [2]string{top, site}
			switch r.Intn(12) {
			case 0:
				l = impl.GrantDrop(l, top, site)
				delete(model, place)
			case 1:
				l = impl.GrantOld(l, now)
				same(t, "nothing else", len(l), model.live(now))
			default:
				out := impl.GrantPut(l, top, site, now)
				codes[out.Code]++
				same(t, "full", out.Code == impl.ErrFull, model.live(now) == 8 && model[place] <= now)
				if out.Code != impl.OK {
					sameGrantOut(t, "beside a code", out, impl.GrantOut{Code: impl.ErrFull})
					break
				}
				model[place] = now + 30
				l = out.Grants
				same(t, "nothing else", len(l), model.live(now))
			}
			model.check(t, l, now)
			model.check(t, l, now+29)
			model.check(t, l, now+30)
		}
		if t.Failed() {
			t.FailNow()
		}
	}
	for _, code := range []int64{impl.OK, impl.ErrFull} {
		if codes[code] < 500 {
			t.Errorf("code %d is told %d times: this tells little", code, codes[code])
		}
	}
}

func TestGrantPutsAreNewMemory(t *testing.T) {
	for _, l := range [][]impl.Grant{nil, {aGrant}, manyGrants(1), manyGrants(3), manyGrants(impl.MaxGrants - 1), manyGrants(impl.MaxGrants), someLeave} {
		for _, put := range grantsOf("t000 s0 10", "t000 s0 100", "t000 ss 103", "z s 10", "a a 10", "https://t.com https://s.com 49", "a s 1000000") {
			var b inBytes
			held := b.grants(l)
			// Its Until is now.
			want := grantPutByForm(l, put.Top, put.Site, put.Until)
			got := impl.GrantPut(held, b.text(put.Top), b.text(put.Site), put.Until)
			sameGrantsBehind(t, held, l)
			b.turn()
			clear(held)
			sameGrantOut(t, shown(put)+": behind the call", got, want)
			ownGrants(t, got.Grants, held)
		}
	}
}
