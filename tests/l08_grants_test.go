package tests

import (
	"fmt"
	"math/rand"
	"slices"
	"strconv"
	"strings"
	"testing"

	"loop.example/g00551/impl"
)

// Which Grants are right; and what the tests of chapter 9 have in common.

// longestSite begins another one, so that what looks at its head alone is seen.
var longestSite = "https://a.com" + strings.Repeat("x", 120-len("https://a.com"))

// wrongSites: none of them is too long for chapter 1.
var wrongSites = []string{"", longestSite + "x", strings.Repeat("é", 61), tooLong[1:]}

// aGrant is right, and so is each of its fields at its edge.
var aGrant = impl.Grant{Top: "https://t.com", Site: "https://s.com", Until: 50}

func sameGrants(t *testing.T, what string, got []impl.Grant, want []impl.Grant) {
	t.Helper()
	if !slices.Equal(got, want) {
		t.Errorf("%s: got %+v, want %+v", what, got, want)
	}
}

func sameGrantOut(t *testing.T, what string, got impl.GrantOut, want impl.GrantOut) {
	t.Helper()
	same(t, what+": code", got.Code, want.Code)
	same(t, what+": used", got.Used, want.Used)
	sameGrants(t, what, got.Grants, want.Grants)
}

// grantsOf: of each text the Top, the Site and the Until, with blanks between.
func grantsOf(texts ...string) []impl.Grant {
	var l []impl.Grant
	for _, text := range texts {
		words := strings.Split(text, " ")
		until, err := strconv.ParseInt(words[2], 10, 64)
		if err != nil {
			panic(err)
		}
		l = append(l, impl.Grant{Top: words[0], Site: words[1], Until: until})
	}
	return l
}

// manyGrants: so many that may stand beside each other, two of each Top, until
// 100 and more.
func manyGrants(count int) []impl.Grant {
	var l []impl.Grant
	for i := range count {
		l = append(l, impl.Grant{Top: fmt.Sprintf("t%03d", i/2), Site: fmt.Sprint("s", i%2), Until: int64(100 + i)})
	}
	return l
}

func TestGrantsByCount(t *testing.T) {
	same(t, "MaxGrants", impl.MaxGrants, 8)
	same(t, "GrantLife", impl.GrantLife, 30)
	same(t, "TouchLife", impl.TouchLife, 5)
	same(t, "none", impl.GrantsRight(nil), true)
	same(t, "an empty list", impl.GrantsRight([]impl.Grant{}), true)
	for count := range impl.MaxGrants + 4 {
		same(t, fmt.Sprint(count, " grants"), impl.GrantsRight(manyGrants(count)), count <= impl.MaxGrants)
		var l []impl.Grant
		for i := range count {
			l = append(l, impl.Grant{Top: "t", Site: fmt.Sprintf("s%02d", i)})
		}
		same(t, fmt.Sprint(count, " grants of one Top"), impl.GrantsRight(l), count <= impl.MaxGrants)
	}
	same(t, "as many as a list may have", impl.GrantsRight(manyGrants(impl.MaxList)), false)
	same(t, "more than a list may have", impl.GrantsRight(manyGrants(impl.MaxList+1)), false)
}

// grantTurns: what makes aGrant otherwise, and whether it is right then.
var grantTurns = []struct {
	what  string
	right bool
	turn  func(g *impl.Grant)
}{
	{"as it is", true, func(g *impl.Grant) {}},
	{"no Top", false, func(g *impl.Grant) { g.Top = "" }},
	{"a Top of one byte", true, func(g *impl.Grant) { g.Top = "\x00" }},
	{"a Top of other bytes", true, func(g *impl.Grant) { g.Top = "\xff\n é" }},
	{"a Top of 119 bytes", true, func(g *impl.Grant) { g.Top = longestSite[1:] }},
	{"a Top of 120 bytes", true, func(g *impl.Grant) { g.Top = longestSite }},
	{"a Top of 121 bytes", false, func(g *impl.Grant) { g.Top = longestSite + "x" }},
	{"a Top of 120 bytes and 60 runes", true, func(g *impl.Grant) { g.Top = strings.Repeat("é", 60) }},
	{"a Top of 122 bytes and 61 runes", false, func(g *impl.Grant) { g.Top = strings.Repeat("é", 61) }},
	{"a Top of far more bytes", false, func(g *impl.Grant) { g.Top = tooLong }},
	{"no Site", false, func(g *impl.Grant) { g.Site = "" }},
	{"a Site of one byte", true, func(g *impl.Grant) { g.Site = "\x00" }},
	{"a Site of other bytes", true, func(g *impl.Grant) { g.Site = "\xff\n é" }},
	{"a Site by http", true, func(g *impl.Grant) { g.Site = "http://s.com" }},
	{"a Site of 119 bytes", true, func(g *impl.Grant) { g.Site = longestSite[1:] }},
	{"a Site of 120 bytes", true, func(g *impl.Grant) { g.Site = longestSite }},
	{"a Site of 121 bytes", false, func(g *impl.Grant) { g.Site = longestSite + "x" }},
	{"a Site of 120 bytes and 60 runes", true, func(g *impl.Grant) { g.Site = strings.Repeat("é", 60) }},
	{"a Site of 122 bytes and 61 runes", false, func(g *impl.Grant) { g.Site = strings.Repeat("é", 61) }},
	{"a Site of far more bytes", false, func(g *impl.Grant) { g.Site = tooLong }},
	{"a Site that is the Top", true, func(g *impl.Grant) { g.Site = g.Top }},
	{"an Until of 0", true, func(g *impl.Grant) { g.Until = 0 }},
	{"an Until of 1", true, func(g *impl.Grant) { g.Until = 1 }},
	{"an Until below 0", false, func(g *impl.Grant) { g.Until = -1 }},
	{"an Until far below 0", false, func(g *impl.Grant) { g.Until = -1 << 63 }},
	{"an Until of MaxTime less 1", true, func(g *impl.Grant) { g.Until = impl.MaxTime - 1 }},
	{"an Until of MaxTime", true, func(g *impl.Grant) { g.Until = impl.MaxTime }},
	{"an Until above MaxTime", false, func(g *impl.Grant) { g.Until = impl.MaxTime + 1 }},
	{"an Until far above MaxTime", false, func(g *impl.Grant) { g.Until = 1<<63 - 1 }},
	{"all that there is", true, func(g *impl.Grant) { *g = impl.Grant{Top: longestSite, Site: longestSite, Until: impl.MaxTime} }},
	{"nothing", false, func(g *impl.Grant) { *g = impl.Grant{} }},
}

func TestGrantsByField(t *testing.T) {
	same(t, "the longest Site", len(longestSite), 120)
	for _, turn := range grantTurns {
		g := aGrant
		turn.turn(&g)
		same(t, turn.what, impl.GrantsRight([]impl.Grant{g}), turn.right)
		same(t, turn.what+": by form", grantsByForm([]impl.Grant{g}), turn.right)
		same(t, turn.what+", ahead", impl.GrantsRight(append([]impl.Grant{g}, grantsOf("\xff\xff s 1")...)), turn.right)
		same(t, turn.what+", behind", impl.GrantsRight(append(grantsOf("\x00 \x00 1"), g)), turn.right)
	}
}

func TestGrantsByOrder(t *testing.T) {
	cases := []struct {
		what  string
		l     []string
		right bool
	}{
		{"Tops rising", []string{"a s 1", "b s 1"}, true},
		{"Tops falling", []string{"b s 1", "a s 1"}, false},
		{"a Top that begins the next one", []string{"a s 1", "aa s 1"}, true},
		{"a Top that begins the one ahead", []string{"aa s 1", "a s 1"}, false},
		{"capitals ahead", []string{"B s 1", "a s 1"}, true},
		{"capitals behind", []string{"a s 1", "B s 1"}, false},
		{"bytes above 127 behind", []string{"z s 1", "\x80 s 1", "\xff s 1"}, true},
		{"bytes above 127 ahead", []string{"\xff s 1", "z s 1"}, false},
		{"http ahead of https", []string{"http://a.com s 1", "https://a.com s 1"}, true},
		{"https ahead of http", []string{"https://a.com s 1", "http://a.com s 1"}, false},
		{"the third falls", []string{"a s 1", "c s 1", "b s 1"}, false},
		{"the third is as the first", []string{"a s 1", "b s 1", "a s 1"}, false},
		{"one of both twice", []string{"a s 1", "a s 1"}, false},
		{"one of both twice, Until rising", []string{"a s 1", "a s 2"}, false},
		{"one of both twice, Until falling", []string{"a s 2", "a s 1"}, false},
		{"Sites rising", []string{"a s 1", "a t 1"}, true},
		{"Sites falling", []string{"a t 1", "a s 1"}, false},
		{"a Site that begins the next one", []string{"a s 1", "a ss 1"}, true},
		{"a Site that begins the one ahead", []string{"a ss 1", "a s 1"}, false},
		{"Tops rising, Sites falling", []string{"a z 1", "b a 1"}, true},
		{"Tops falling, Sites rising", []string{"b a 1", "a z 1"}, false},
		{"Tops rising, Sites equal", []string{"a s 1", "b s 1", "c s 1"}, true},
		{"Sites falling in the second Top", []string{"a s 1", "b t 1", "b s 1"}, false},
		{"Untils falling", []string{"a s 3", "a t 2", "b s 1"}, true},
		{"Tops falling, Untils rising", []string{"b s 1", "a s 2"}, false},
		{"Top and Site turned", []string{"a b 1", "b a 1"}, true},
		{"together alike", []string{"a bc 1", "ab c 1"}, true},
		{"together alike, falling", []string{"ab c 1", "a bc 1"}, false},
	}
	for _, c := range cases {
		l := grantsOf(c.l...)
		same(t, c.what, impl.GrantsRight(l), c.right)
		same(t, c.what+": by form", grantsByForm(l), c.right)
	}
}

// grantsByForm: are Grants right? One sentence of the document after the other.
func grantsByForm(l []impl.Grant) bool {
	for i, g := range l {
		if !siteByForm(g.Top) || !siteByForm(g.Site) || !timeByForm(g.Until) {
			return false
		}
		if i > 0 && slices.Compare([]string{l[i-1].Top, l[i-1].Site}, []string{g.Top, g.Site}) > -1 {
			return false
		}
	}
	return len(l) <= 8
}

func siteByForm(site string) bool {
	return len(site) > 0 && len(site) < 121
}

// wrongGrants: each has one thing that may not be; none is too long for chapter 1.
func wrongGrants() [][]impl.Grant {
	var all [][]impl.Grant
	for _, turn := range grantTurns {
		if turn.right {
			continue
		}
		g := aGrant
		turn.turn(&g)
		all = append(all, []impl.Grant{g}, append(grantsOf("\x00 \x00 60"), g), append([]impl.Grant{g}, grantsOf("\xff\xff s 60")...))
	}
	twice := []impl.Grant{aGrant, aGrant}
	twice[1].Until++
	return append(all,
		grantsOf("k s 60", "j s 60"), grantsOf("j s 60", "k t 60", "k s 60"), []impl.Grant{aGrant, aGrant}, twice,
		append([]impl.Grant{aGrant}, manyGrants(impl.MaxGrants)...), append([]impl.Grant{aGrant}, grantsOf("a a 60")...),
		manyGrants(impl.MaxGrants+1), manyGrants(impl.MaxList))
}

func TestGrantsThatAreWrong(t *testing.T) {
	for _, l := range wrongGrants() {
		same(t, shown(l), impl.GrantsRight(l), false)
		same(t, shown(l)+": by form", grantsByForm(l), false)
	}
}

// Few of each, rising, so that they often meet; some begin others, or are both.
var (
	grantTops   = []string{"https://a.com", "https://a.com.uk", longestSite, "https://b.com"}
	grantSites  = []string{"http://a.com", "https:/", "https://a.com", longestSite, "https://b.com", "https://c.com"}
	grantUntils = []int64{0, 4, 5, 6, 10, 11, 12, 16, 40, 100, 1000, impl.MaxTime - 1, impl.MaxTime}
)

// someGrants draws some that are most often right, often as many as may be, and
// often all live.
func someGrants(r *rand.Rand) []impl.Grant {
	most := oneOf(r, []int{0, 1, 2, 4, impl.MaxGrants - 1, impl.MaxGrants, impl.MaxGrants, impl.MaxGrants, impl.MaxGrants})
	if r.Intn(20) == 0 {
		most = impl.MaxGrants + 1
	}
	untils := grantUntils
	if r.Intn(2) == 0 {
		untils = []int64{impl.MaxTime}
	}
	var l []impl.Grant
	for _, top := range grantTops {
		for _, site := range grantSites {
			if len(l) < most && r.Intn(2) == 0 {
				l = append(l, impl.Grant{Top: top, Site: site, Until: oneOf(r, untils)})
			}
		}
	}
	if len(l) > 1 && r.Intn(20) == 0 {
		at := r.Intn(len(l) - 1)
		l[at], l[at+1] = l[at+1], l[at]
	}
	return l
}

func someTop(r *rand.Rand) string {
	if r.Intn(50) == 0 {
		return oneOf(r, wrongSites)
	}
	return oneOf(r, grantTops)
}

func someSite(r *rand.Rand) string {
	if r.Intn(50) == 0 {
		return oneOf(r, wrongSites)
	}
	return oneOf(r, grantSites)
}

func TestGrantsDrawn(t *testing.T) {
	r := rand.New(rand.NewSource(20))
	right := 0
	for range 6000 {
		l := someGrants(r)
		want := grantsByForm(l)
		if got := impl.GrantsRight(l); got != want {
			t.Fatalf("%+v: got %v, want %v", l, got, want)
		}
		if want {
			right++
		}
	}
	if right < 3000 || right > 5900 {
		t.Errorf("%d of 6000 are right: this tells little", right)
	}
}

// grants: a copy in memory that can be turned, in a list with room behind its end.
func (b *inBytes) grants(l []impl.Grant) []impl.Grant {
	held := make([]impl.Grant, 0, len(l)+3)
	for _, g := range l {
		held = append(held, impl.Grant{Top: b.text(g.Top), Site: b.text(g.Site), Until: g.Until})
	}
	return held
}

// sameGrantsBehind: what was handed in is as it was, and so is the room behind it.
func sameGrantsBehind(t *testing.T, held []impl.Grant, l []impl.Grant) {
	t.Helper()
	sameGrants(t, "the grants handed in", held, l)
	sameGrants(t, "what lies behind them", held[len(held):cap(held)], make([]impl.Grant, cap(held)-len(held)))
}

// ownGrants: a list that was told shares nothing with the one handed in, which
// was cleared.
func ownGrants(t *testing.T, got []impl.Grant, held []impl.Grant) {
	t.Helper()
	for i := range got {
		got[i].Top = "other"
	}
	_ = append(got, aGrant)
	sameGrants(t, "the list handed in", held[:cap(held)], make([]impl.Grant, cap(held)))
}

func TestGrantsRightLeavesWhatIsHandedIn(t *testing.T) {
	for _, l := range [][]impl.Grant{manyGrants(3), manyGrants(impl.MaxGrants), grantsOf("b s 1", "a s 1"), grantsOf("a s 1", "a s 1")} {
		var b inBytes
		held := b.grants(l)
		same(t, shown(l), impl.GrantsRight(held), grantsByForm(l))
		sameGrantsBehind(t, held, l)
	}
}
