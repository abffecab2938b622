package tests

import (
	"fmt"
	"math/rand"
	"slices"
	"strings"
	"testing"

	"loop.example/g00551/impl"
)

// Asked for, it is granted just to who was touched, is no sandbox, goes by
// https, and is related or was told yes (promise 14).

// anAsk is granted, but for what else is there.
var anAsk = impl.Ask{Top: "https://t.com", Site: "https://s.com", Touched: true, Yes: true}

func askOf(turns ...func(a *impl.Ask)) impl.Ask {
	a := anAsk
	for _, turn := range turns {
		turn(&a)
	}
	return a
}

// Ways in which anAsk is made otherwise.
func untouched(a *impl.Ask)   { a.Touched = false }
func boxed(a *impl.Ask)       { a.Sandbox = true }
func related(a *impl.Ask)     { a.Related = true }
func toldNo(a *impl.Ask)      { a.Yes = false }
func byHttp(a *impl.Ask)      { a.Site = "http://s.com" }
func atHome(a *impl.Ask)      { a.Top = a.Site }
func inHttpPage(a *impl.Ask)  { a.Top = "http://t.com" }
func inOtherPage(a *impl.Ask) { a.Top = "https://u.com" }

// allAsks: of that Top and that Site, with all that may be told of them.
func allAsks(top string, site string) []impl.Ask {
	var all []impl.Ask
	for i := range 16 {
		all = append(all, impl.Ask{Top: top, Site: site, Touched: i&1 > 0, Sandbox: i&2 > 0, Related: i&4 > 0, Yes: i&8 > 0})
	}
	return all
}

func TestAskings(t *testing.T) {
	// One is old, and goes when something is put.
	begin := grantsOf("https://t.com https://r.com 50", "https://u.com https://s.com 10")
	put := impl.GrantOut{Grants: grantsOf("https://t.com https://r.com 50", "https://t.com https://s.com 40"), Used: true}
	denied := impl.GrantOut{Code: impl.ErrDenied}
	state := impl.GrantOut{Code: impl.ErrState}
	toldOff := impl.GrantOut{Grants: begin, Used: true, Code: impl.ErrDenied}
	cases := []struct {
		what string
		a    impl.Ask
		want impl.GrantOut
	}{
		{"Touched, Yes", anAsk, put},
		{"Touched, Related", askOf(related, toldNo), put},
		{"Touched, Related and Yes", askOf(related), put},
		{"Touched, neither", askOf(toldNo), toldOff},
		{"not Touched, Yes", askOf(untouched), state},
		{"not Touched, Related", askOf(untouched, related, toldNo), state},
		{"not Touched, Related and Yes", askOf(untouched, related), state},
		{"not Touched, neither", askOf(untouched, toldNo), state},
		{"a Sandbox", askOf(boxed), denied},
		{"a Sandbox, Related", askOf(boxed, related), denied},
		{"a Sandbox, neither", askOf(boxed, toldNo), denied},
		{"a Sandbox, not Touched", askOf(boxed, untouched), denied},
		{"a Sandbox, not Touched, neither", askOf(boxed, untouched, toldNo), denied},
		{"by http", askOf(byHttp), denied},
		{"by http, Related", askOf(byHttp, related), denied},
		{"by http, neither", askOf(byHttp, toldNo), denied},
		{"by http, not Touched", askOf(byHttp, untouched), denied},
		{"by http, not Touched, neither", askOf(byHttp, untouched, toldNo), denied},
		{"by http, a Sandbox", askOf(byHttp, boxed), denied},
		{"in a page by http", askOf(inHttpPage), impl.GrantOut{Grants: grantsOf("http://t.com https://s.com 40", "https://t.com https://r.com 50"), Used: true}},
		{"in that page it is old", askOf(inOtherPage), impl.GrantOut{Grants: grantsOf("https://t.com https://r.com 50", "https://u.com https://s.com 40"), Used: true}},
		{"in that page it is old, not Touched", askOf(inOtherPage, untouched), state},
		{"in that page it is old, a Sandbox", askOf(inOtherPage, boxed), denied},
		{"in that page it is old, neither", askOf(inOtherPage, toldNo), toldOff},
	}
	for _, c := range cases {
		sameGrantOut(t, c.what, impl.GrantAsk(begin, c.a, 10), c.want)
		sameGrantOut(t, c.what+": by form", grantAskByForm(begin, c.a, 10), c.want)
	}
	sameGrantOut(t, "of none", impl.GrantAsk(nil, anAsk, 10), impl.GrantOut{Grants: grantsOf("https://t.com https://s.com 40"), Used: true})
	sameGrantOut(t, "of none, neither", impl.GrantAsk(nil, askOf(toldNo), 10), impl.GrantOut{Used: true, Code: impl.ErrDenied})
}

func TestAskingsBySchemes(t *testing.T) {
	others := []string{"http://s.com", "https", "https:", "https:/", "https:/s.com", "https//s.com", "HTTPS://s.com", "Https://s.com", " https://s.com",
		"xhttps://s.com", "http://https://s.com", "httpss://s.com", "http", "s", "s.com", "ftp://s.com", "null#3", "\x00", "\xff", strings.Repeat("s", 120)}
	for _, site := range others {
		sameGrantOut(t, shown(site), impl.GrantAsk(nil, askOf(func(a *impl.Ask) { a.Site = site }), 10), impl.GrantOut{Code: impl.ErrDenied})
		sameGrantOut(t, shown(site)+" as the Top, too", impl.GrantAsk(nil, askOf(func(a *impl.Ask) { a.Site = site }, atHome), 10), impl.GrantOut{})
		want := impl.GrantOut{Grants: []impl.Grant{{Top: site, Site: "https://s.com", Until: 40}}, Used: true}
		sameGrantOut(t, shown(site)+" as the Top alone", impl.GrantAsk(nil, askOf(func(a *impl.Ask) { a.Top = site }), 10), want)
	}
	for _, site := range []string{"https://s", "https://s.com", "https://x.s.com", longestSite} {
		want := impl.GrantOut{Grants: []impl.Grant{{Top: "https://t.com", Site: site, Until: 40}}, Used: true}
		sameGrantOut(t, shown(site), impl.GrantAsk(nil, askOf(func(a *impl.Ask) { a.Site = site }), 10), want)
	}
}

// What is live already, or at home, is neither denied nor anything new: whatever
// it is, and untouched.
func TestAskingsWithoutAnythingNew(t *testing.T) {
	live := grantsOf("http://s.com https://t.com 1", "https://t.com http://s.com 11", "https://t.com https://s.com 11", "https://u.com https://s.com 10")
	full := manyGrants(impl.MaxGrants - 2)
	full = append(grantsOf("https://t.com http://s.com 1000000", "https://t.com https://s.com 11"), full...)
	for _, site := range []string{"http://s.com", "https://s.com"} {
		for _, a := range allAsks("https://t.com", site) {
			for _, l := range [][]impl.Grant{live, full, live[1:3]} {
				sameGrantOut(t, shown(a)+": live", impl.GrantAsk(l, a, 10), impl.GrantOut{Grants: l})
			}
			same(t, shown(a)+": old", impl.GrantAsk(live[1:3], a, 11).Code, grantAskByForm(nil, a, 11).Code)
		}
		for _, a := range allAsks(site, site) {
			for _, l := range [][]impl.Grant{nil, live, full, manyGrants(impl.MaxGrants), {{Top: site, Site: site, Until: 11}}, {{Top: site, Site: site, Until: 10}}} {
				sameGrantOut(t, shown(a)+": at home", impl.GrantAsk(l, a, 10), impl.GrantOut{Grants: l})
			}
			for _, now := range []int64{0, impl.MaxTime} {
				sameGrantOut(t, shown(a)+": at home", impl.GrantAsk(live, a, now), impl.GrantOut{Grants: live})
			}
		}
	}
	sameGrantOut(t, "at home, by http, a Sandbox", impl.GrantAsk(live, askOf(byHttp, atHome, boxed, untouched, toldNo), 10), impl.GrantOut{Grants: live})
	sameGrantOut(t, "at home, of none", impl.GrantAsk([]impl.Grant{}, askOf(atHome, boxed), 10), impl.GrantOut{})
	for _, site := range append([]string{tooLong}, wrongSites...) {
		sameGrantOut(t, "at home, not right: "+shown(site), impl.GrantAsk(live, impl.Ask{Top: site, Site: site}, 10), impl.GrantOut{Code: impl.ErrForm})
	}
}

// The touch is used also where there is no room.
func TestAskingsOfManyGrants(t *testing.T) {
	full := impl.GrantOut{Used: true, Code: impl.ErrFull}
	for count := range impl.MaxGrants + 1 {
		// They begin to be old at 100, one by one.
		l := manyGrants(count)
		for old := range count + 1 {
			now := int64(99 + old)
			want := impl.GrantOut{Grants: append(grantsOf(fmt.Sprint("https://t.com https://s.com ", now+30)), l[old:]...), Used: true}
			if count-old == impl.MaxGrants {
				want = full
			}
			what := fmt.Sprint(old, " of ", count, " are old")
			sameGrantOut(t, what, impl.GrantAsk(l, anAsk, now), want)
			sameGrantOut(t, what+", Related", impl.GrantAsk(l, askOf(related, toldNo), now), want)
			sameGrantOut(t, what+", neither", impl.GrantAsk(l, askOf(toldNo), now), impl.GrantOut{Grants: l, Used: true, Code: impl.ErrDenied})
			sameGrantOut(t, what+", not Touched", impl.GrantAsk(l, askOf(untouched), now), impl.GrantOut{Code: impl.ErrState})
			sameGrantOut(t, what+", a Sandbox", impl.GrantAsk(l, askOf(boxed), now), impl.GrantOut{Code: impl.ErrDenied})
		}
	}
	// One of both is no more live: so it takes no place beside itself.
	rest := manyGrants(impl.MaxGrants - 1)
	for _, until := range []int64{0, 9, 10} {
		l := append([]impl.Grant{{Top: "https://t.com", Site: "https://s.com", Until: until}}, rest...)
		want := append(grantsOf("https://t.com https://s.com 40"), rest...)
		sameGrantOut(t, "one of both is old", impl.GrantAsk(l, anAsk, 10), impl.GrantOut{Grants: want, Used: true})
	}
}

func TestAskingsByTime(t *testing.T) {
	for _, now := range []int64{0, 1, 10, impl.MaxTime - 31, impl.MaxTime - 30, impl.MaxTime - 29, impl.MaxTime - 1, impl.MaxTime} {
		until := min(now+30, impl.MaxTime)
		got := impl.GrantAsk(nil, anAsk, now)
		sameGrantOut(t, fmt.Sprint("at ", now), got, impl.GrantOut{Grants: []impl.Grant{{Top: "https://t.com", Site: "https://s.com", Until: until}}, Used: true})
		for then := now; then <= min(until+2, impl.MaxTime); then++ {
			again := impl.GrantOut{Code: impl.ErrState}
			if then < until {
				again = impl.GrantOut{Grants: got.Grants}
			}
			sameGrantOut(t, fmt.Sprint("at ", now, ", again at ", then), impl.GrantAsk(got.Grants, askOf(untouched, toldNo), then), again)
		}
	}
	for _, now := range wrongTimes {
		for _, a := range []impl.Ask{anAsk, askOf(untouched), askOf(boxed), askOf(atHome), askOf(toldNo)} {
			sameGrantOut(t, fmt.Sprint("at ", now), impl.GrantAsk([]impl.Grant{aGrant}, a, now), impl.GrantOut{Code: impl.ErrForm})
		}
	}
}

// askArgs: what GrantAsk is given.
type askArgs struct {
	l   []impl.Grant
	a   impl.Ask
	now int64
}

// askFaults: in the order in which they are named; of is what they turn, and
// used, whether it comes to the touch.
var askFaults = []struct {
	what string
	code int64
	used bool
	of   string
	turn func(a *askArgs)
}{
	{"a list too long", impl.ErrSize, false, "l", func(a *askArgs) { a.l = manyGrants(impl.MaxList + 1) }},
	{"as many as a list may have", impl.ErrForm, false, "l", func(a *askArgs) { a.l = manyGrants(impl.MaxList) }},
	{"one grant too many", impl.ErrForm, false, "l", func(a *askArgs) { a.l = manyGrants(impl.MaxGrants + 1) }},
	{"a grant that is not right", impl.ErrForm, false, "l", func(a *askArgs) { a.l = make([]impl.Grant, 1) }},
	{"a grant of far too much", impl.ErrForm, false, "l", func(a *askArgs) { a.l = []impl.Grant{{Top: tooLong, Site: "s"}} }},
	{"grants that fall", impl.ErrForm, false, "l", func(a *askArgs) { a.l = grantsOf("b s 50", "a s 50") }},
	{"no Top", impl.ErrForm, false, "top", func(a *askArgs) { a.a.Top = "" }},
	{"a Top of 121 bytes", impl.ErrForm, false, "top", func(a *askArgs) { a.a.Top = longestSite + "x" }},
	{"a Top of more than MaxBytes bytes", impl.ErrForm, false, "top", func(a *askArgs) { a.a.Top = tooLong }},
	{"no Site", impl.ErrForm, false, "site", func(a *askArgs) { a.a.Site = "" }},
	{"a Site of 121 bytes", impl.ErrForm, false, "site", func(a *askArgs) { a.a.Site = longestSite + "x" }},
	{"a Site of more than MaxBytes bytes", impl.ErrForm, false, "site", func(a *askArgs) { a.a.Site = "https://" + tooLong }},
	{"a now below 0", impl.ErrForm, false, "now", func(a *askArgs) { a.now = -1 }},
	{"a now above MaxTime", impl.ErrForm, false, "now", func(a *askArgs) { a.now = impl.MaxTime + 1 }},
	{"a Sandbox", impl.ErrDenied, false, "box", func(a *askArgs) { a.a.Sandbox = true }},
	{"a Site by http", impl.ErrDenied, false, "site", func(a *askArgs) { a.a.Site = "http://s.com" }},
	{"not Touched", impl.ErrState, false, "touch", func(a *askArgs) { a.a.Touched = false }},
	{"neither Related nor Yes", impl.ErrDenied, true, "yes", func(a *askArgs) { a.a.Yes = false }},
	{"as many as may be", impl.ErrFull, true, "l", func(a *askArgs) { a.l = manyGrants(impl.MaxGrants) }},
}

// Each fault by itself, and two at once: the first one is told. Grants are told
// only of what was asked for with a touch in vain.
func TestAskingFaultsInTheirOrder(t *testing.T) {
	begin := askArgs{manyGrants(3), anAsk, 10}
	same(t, "no fault", impl.GrantAsk(begin.l, begin.a, begin.now).Code, impl.OK)
	check := func(what string, a askArgs, used bool, code int64) {
		t.Helper()
		want := impl.GrantOut{Used: used, Code: code}
		if used && code == impl.ErrDenied {
			want.Grants = a.l
		}
		sameGrantOut(t, what, impl.GrantAsk(a.l, a.a, a.now), want)
	}
	for i, first := range askFaults {
		a := begin
		first.turn(&a)
		check(first.what, a, first.used, first.code)
		for _, second := range askFaults[i+1:] {
			if first.of == second.of {
				// They turn the same thing: the first one would be gone.
				continue
			}
			b := a
			second.turn(&b)
			check(first.what+", "+second.what, b, first.used, first.code)
		}
	}
}

func TestAskingsOfWhatIsWrong(t *testing.T) {
	form := impl.GrantOut{Code: impl.ErrForm}
	for _, a := range append(allAsks("https://t.com", "https://s.com"), askOf(atHome)) {
		for _, l := range wrongGrants() {
			sameGrantOut(t, shown(l)+", "+shown(a), impl.GrantAsk(l, a, 10), form)
		}
		sameGrantOut(t, "more than a list may have, "+shown(a), impl.GrantAsk(manyGrants(impl.MaxList+1), a, 10), impl.GrantOut{Code: impl.ErrSize})
		for _, site := range append([]string{tooLong}, wrongSites...) {
			b, c := a, a
			b.Top, c.Site = site, site
			sameGrantOut(t, "Top "+shown(site), impl.GrantAsk([]impl.Grant{aGrant}, b, 10), form)
			sameGrantOut(t, "Site "+shown(site), impl.GrantAsk([]impl.Grant{aGrant}, c, 10), form)
		}
	}
	// The one of both is there, but another one is not right.
	sameGrantOut(t, "live, of what is wrong", impl.GrantAsk(grantsOf("https://t.com https://s.com 50", "a a 50"), anAsk, 10), form)
}

// grantAskByForm: one sentence of the document after the other.
func grantAskByForm(l []impl.Grant, a impl.Ask, now int64) impl.GrantOut {
	if !grantsByForm(l) || !siteByForm(a.Top) || !siteByForm(a.Site) || !timeByForm(now) {
		return impl.GrantOut{Code: impl.ErrForm}
	}
	for _, g := range l {
		if g.Top == a.Top && g.Site == a.Site && g.Until > now {
			return impl.GrantOut{Grants: l}
		}
	}
	switch {
	case a.Top == a.Site:
		return impl.GrantOut{Grants: l}
	case a.Sandbox:
		return impl.GrantOut{Code: impl.ErrDenied}
	case len(a.Site) < 8 || a.Site[:8] != "https://":
		return impl.GrantOut{Code: impl.ErrDenied}
	case !a.Touched:
		return impl.GrantOut{Code: impl.ErrState}
	case a.Related || a.Yes:
		out := grantPutByForm(l, a.Top, a.Site, now)
		out.Used = true
		return out
	}
	return impl.GrantOut{Grants: l, Used: true, Code: impl.ErrDenied}
}

func TestAskingsDrawn(t *testing.T) {
	r := rand.New(rand.NewSource(24))
	codes := map[string]int{}
	for range 40000 {
		l, now := someGrants(r), someTime(r)
		a := impl.Ask{Top: someTop(r), Site: someSite(r), Touched: r.Intn(4) > 0, Sandbox: r.Intn(4) == 0, Related: r.Intn(3) == 0, Yes: r.Intn(3) == 0}
		got, want := impl.GrantAsk(l, a, now), grantAskByForm(l, a, now)
		codes[fmt.Sprint(got.Code, got.Used)]++
		if got.Code != want.Code || got.Used != want.Used || !slices.Equal(got.Grants, want.Grants) {
			t.Fatalf("%+v, %+v, %d: got %+v, want %+v", l, a, now, got, want)
		}
		anew := !impl.GrantLive(l, a.Top, a.Site, now) && impl.GrantLive(got.Grants, a.Top, a.Site, now)
		may := a.Touched && !a.Sandbox && strings.HasPrefix(a.Site, "https://") && (a.Related || a.Yes)
		if anew && !may || anew != (got.Code == impl.OK && got.Used && now < impl.MaxTime) {
			t.Fatalf("%+v, %+v, %d: is granted: %v", l, a, now, got)
		}
	}
	for _, code := range []string{"0 false", "0 true", "1 false", "9 true", "10 false", "11 false", "11 true"} {
		if codes[code] < 200 {
			t.Errorf("code and use %s are told %d times: this tells little", code, codes[code])
		}
	}
}

func TestAskingsAreNewMemory(t *testing.T) {
	live := grantsOf("https://t.com https://s.com 11", "https://u.com https://s.com 10")
	full := append(grantsOf("https://t.com https://r.com 11"), manyGrants(impl.MaxGrants-1)...)
	for _, l := range [][]impl.Grant{nil, live, full, manyGrants(3), manyGrants(impl.MaxGrants)} {
		for _, a := range append(allAsks("https://t.com", "https://s.com"), askOf(atHome), askOf(byHttp), askOf(inOtherPage)) {
			for _, now := range []int64{10, 11, 103, -1} {
				var b inBytes
				held := b.grants(l)
				lent := a
				lent.Top, lent.Site = b.text(a.Top), b.text(a.Site)
				want := grantAskByForm(l, a, now)
				got := impl.GrantAsk(held, lent, now)
				sameGrantsBehind(t, held, l)
				b.turn()
				clear(held)
				sameGrantOut(t, shown(a)+": behind the call", got, want)
				ownGrants(t, got.Grants, held)
			}
		}
	}
}
