package tests

import (
	"fmt"
	"slices"
	"strings"
	"testing"

	"loop.example/g00551/impl"
)

// Which worlds are right, and new ones; and what the tests of chapter 11 have in
// common.

func sameWorld(t *testing.T, what string, got impl.World, want impl.World) {
	t.Helper()
	sameList(t, what+": rules", got.Rules, want.Rules)
	sameSets(t, what+": sets", got.Sets, want.Sets)
	sameFrames(t, what+": frames", got.Frames, want.Frames)
	sameJar(t, what+": jar", got.Jar, want.Jar)
	sameArea(t, what+": area", got.Area, want.Area)
	sameGrants(t, what+": grants", got.Grants, want.Grants)
	same(t, what+": now", got.Now, want.Now)
}

func sameWorldOut(t *testing.T, what string, got impl.WorldOut, want impl.WorldOut) {
	t.Helper()
	same(t, what+": code", got.Code, want.Code)
	same(t, what+": Id", got.Id, want.Id)
	same(t, what+": Text", got.Text, want.Text)
	same(t, what+": Says", got.Says, want.Says)
	sameWorld(t, what, got.World, want.World)
}

// houseFrames: strangers and others, by https and by http, in two pages.
var houseFrames = []string{
	"1 0 https://a.com/",
	"2 1 https://b.com/",     // a stranger, related to the top
	"3 1 https://c.com/",     // a stranger that is not
	"4 1 https://x.a.com/p",  // of the top's site
	"5 2 https://a.com/",     // of the top's site, too, but within another's
	"6 1 https://b.com/ box", // a Sandbox
	"7 0 http://a.com/",      // a page by http
	"8 7 https://b.com/",     // a stranger there
	"9 1 http://b.com/",      // a stranger by http
}

// houseCookies: the Name says what it is, the Value whose.
var houseCookies = []impl.Cookie{
	{Name: "lax", Value: "a", Host: "a.com", Path: "/", Made: 1},
	{Name: "none", Value: "b", Host: "b.com", Path: "/", Secure: true, Mode: impl.MdNone, Made: 2},
	{Name: "lax", Value: "b", Host: "b.com", Path: "/", Made: 3},
	{Name: "part", Value: "b", Host: "b.com", Path: "/", Secure: true, Part: "https://a.com", Made: 4},
	{Name: "other", Value: "b", Host: "b.com", Path: "/", Secure: true, Part: "http://a.com", Made: 5},
	{Name: "none", Value: "c", Host: "c.com", Path: "/", Secure: true, Mode: impl.MdNone, Made: 6},
	{Name: "part", Value: "c", Host: "c.com", Path: "/", Secure: true, Part: "https://a.com", Made: 7},
	{Name: "part", Value: "a", Host: "a.com", Path: "/", Secure: true, Part: "https://a.com", Made: 8},
}

// houseRooms: in each but the last one the Value is where it is.
var houseRooms = []string{
	"https://a.com^https://a.com n top",
	"https://a.com^https://a.com! n within",
	"https://b.com^http://a.com! n http",
	"https://b.com^https://a.com! n stranger",
	"https://b.com^https://b.com n own",
	"null#6^https://a.com! n box",
}

// houseWorld: of all that a world has some, nobody touched, and leave of others
// alone.
func houseWorld() impl.World {
	return impl.World{
		Rules:  slices.Clone(siteRules),
		Sets:   setsOf("a.com:b.com", "c.com:city.uk"),
		Frames: framesOf(houseFrames...),
		Jar:    slices.Clone(houseCookies),
		Area:   entriesOf(houseRooms...),
		Grants: grantsOf("https://b.com https://a.com 100", "https://z.com https://b.com 100"),
		Now:    10,
	}
}

// houseWith: that world made otherwise.
func houseWith(turns ...func(w *impl.World)) impl.World {
	w := houseWorld()
	for _, turn := range turns {
		turn(&w)
	}
	return w
}

// frameTurned: what is done to the frame of that Id.
func frameTurned(id int64, turn func(f *impl.Frame)) func(w *impl.World) {
	return func(w *impl.World) { turn(&w.Frames[placeOfId(w.Frames, id)]) }
}

func touchedAt(id int64, at int64) func(w *impl.World) {
	return frameTurned(id, func(f *impl.Frame) { f.Touch = at })
}

func flagged(id int64) func(w *impl.World) {
	return frameTurned(id, func(f *impl.Frame) { f.Flag = true })
}

// granted: one more Grant, in its place.
func granted(text string) func(w *impl.World) {
	return func(w *impl.World) {
		w.Grants = append(w.Grants, grantsOf(text)...)
		slices.SortFunc(w.Grants, func(a impl.Grant, b impl.Grant) int {
			return slices.Compare([]string{a.Top, a.Site}, []string{b.Top, b.Site})
		})
	}
}

func atTime(now int64) func(w *impl.World) {
	return func(w *impl.World) { w.Now = now }
}

// worldByForm: is a world right? One sentence of the document.
func worldByForm(w impl.World) bool {
	return impl.RulesRight(w.Rules) && setsByForm(w.Rules, w.Sets) && framesByForm(w.Frames) && jarByForm(w.Jar) &&
		areaByForm(w.Area) && grantsByForm(w.Grants) && timeByForm(w.Now)
}

// toldWorld: a world, and what it is.
type toldWorld struct {
	what string
	w    impl.World
}

// wrongWorlds: each has one part that is not right.
func wrongWorlds() []toldWorld {
	var all []toldWorld
	add := func(what string, part any, turn func(w *impl.World)) {
		all = append(all, toldWorld{what + shown(part), houseWith(turn)})
	}
	for _, rules := range wrongRuleLists {
		add("rules ", rules, func(w *impl.World) { w.Rules, w.Sets = rules, nil })
	}
	for _, sets := range wrongSetLists {
		add("sets ", sets.lines, func(w *impl.World) { w.Sets = setsOf(sets.lines...) })
	}
	for _, l := range append(wrongFrames(), manyFrames(impl.MaxList+1)) {
		add("frames ", l, func(w *impl.World) { w.Frames = l })
	}
	for _, l := range append(wrongJars(), manyCookies(impl.MaxList+1)) {
		add("jar ", l, func(w *impl.World) { w.Jar = l })
	}
	for _, l := range append(wrongAreas(), manyEntries(impl.MaxList+1)) {
		add("area ", l, func(w *impl.World) { w.Area = l })
	}
	for _, l := range append(wrongGrants(), manyGrants(impl.MaxList+1)) {
		add("grants ", l, func(w *impl.World) { w.Grants = l })
	}
	for _, now := range wrongTimes {
		add("now ", now, atTime(now))
	}
	return all
}

func TestWorlds(t *testing.T) {
	cases := []struct {
		what  string
		w     impl.World
		right bool
	}{
		{"nothing", impl.World{}, true},
		{"lists of nothing", impl.World{Rules: []string{}, Sets: []impl.SiteSet{}, Frames: []impl.Frame{}, Jar: []impl.Cookie{}, Area: []impl.Entry{}, Grants: []impl.Grant{}}, true},
		{"something of each", houseWorld(), true},
		{"a Now below 0", houseWith(atTime(-1)), false},
		{"a Now of 0", houseWith(atTime(0)), true},
		{"a Now of 1", houseWith(atTime(1)), true},
		{"a Now of MaxTime", houseWith(atTime(impl.MaxTime)), true},
		{"a Now of one more", houseWith(atTime(impl.MaxTime + 1)), false},
		{"nothing, a Now below 0", impl.World{Now: -1}, false},
		{"nothing, a Now of one more than MaxTime", impl.World{Now: impl.MaxTime + 1}, false},
		{"Sets of other rules", impl.World{Rules: siteRules, Sets: setsOf("io.com:b.com")}, false},
		{"these Sets by their rules", impl.World{Rules: []string{"com"}, Sets: setsOf("io.com:b.com")}, true},
		{"Sets by these Rules", impl.World{Rules: siteRules, Sets: setsOf("a.io.com:b.com")}, true},
		{"these Sets by other Rules", impl.World{Rules: []string{"com"}, Sets: setsOf("a.io.com:b.com")}, false},
		{"these Sets without Rules", impl.World{Sets: setsOf("a.io.com:b.com")}, false},
		{"Sets without Rules", impl.World{Sets: setsOf("a.com:b.com")}, true},
		{"touched behind now", houseWith(touchedAt(2, 11)), true},
		{"what is old in it", houseWith(granted("https://a.com https://b.com 0"), func(w *impl.World) { w.Jar[0].Until = 3 }), true},
	}
	for _, c := range cases {
		same(t, c.what, impl.WorldRight(c.w), c.right)
		same(t, c.what+": by form", worldByForm(c.w), c.right)
	}
	for _, wrong := range wrongWorlds() {
		same(t, wrong.what, impl.WorldRight(wrong.w), false)
		same(t, wrong.what+": by form", worldByForm(wrong.w), false)
	}
}

// Each part by itself, of a world of nothing else.
func TestWorldsByPart(t *testing.T) {
	for _, rules := range wrongRuleLists {
		same(t, shown(rules), impl.WorldRight(impl.World{Rules: rules}), false)
	}
	for _, sets := range wrongSetLists {
		same(t, shown(sets), impl.WorldRight(impl.World{Rules: siteRules, Sets: setsOf(sets.lines...)}), false)
	}
	for _, lines := range rightSets {
		same(t, shown(lines), impl.WorldRight(impl.World{Rules: siteRules, Sets: setsOf(lines...)}), true)
	}
	for _, l := range wrongFrames() {
		same(t, shown(l), impl.WorldRight(impl.World{Frames: l}), false)
	}
	for _, l := range wrongJars() {
		same(t, shown(l), impl.WorldRight(impl.World{Jar: l}), false)
	}
	for _, l := range wrongAreas() {
		same(t, shown(l), impl.WorldRight(impl.World{Area: l}), false)
	}
	for _, l := range wrongGrants() {
		same(t, shown(l), impl.WorldRight(impl.World{Grants: l}), false)
	}
	full := impl.World{Rules: manyRules(impl.MaxRules), Sets: setsOf(manySets(impl.MaxSets)...), Frames: manyFrames(impl.MaxFrames), Jar: manyCookies(impl.MaxJar),
		Area: manyEntries(impl.MaxEntries), Grants: manyGrants(impl.MaxGrants), Now: impl.MaxTime}
	same(t, "as much as may be", impl.WorldRight(full), true)
	for what, turn := range map[string]func(w *impl.World){
		"rules":   func(w *impl.World) { w.Rules = manyRules(impl.MaxRules + 1) },
		"sets":    func(w *impl.World) { w.Sets = setsOf(manySets(impl.MaxSets + 1)...) },
		"frames":  func(w *impl.World) { w.Frames = manyFrames(impl.MaxFrames + 1) },
		"cookies": func(w *impl.World) { w.Jar = manyCookies(impl.MaxJar + 1) },
		"entries": func(w *impl.World) { w.Area = manyEntries(impl.MaxEntries + 1) },
		"grants":  func(w *impl.World) { w.Grants = manyGrants(impl.MaxGrants + 1) },
	} {
		w := full
		turn(&w)
		same(t, "one more of the "+what, impl.WorldRight(w), false)
	}
}

func TestWorldNews(t *testing.T) {
	cases := []struct {
		what  string
		rules string
		sets  string
		want  impl.World
	}{
		{"nothing", "", "", impl.World{}},
		{"rules alone", "com\nuk\n", "", impl.World{Rules: []string{"com", "uk"}}},
		{"rules without a last line feed", "com", "", impl.World{Rules: []string{"com"}}},
		{"sets alone", "", "a.com:b.com\n", impl.World{Sets: setsOf("a.com:b.com")}},
		{"both", "com\n*.uk\n!city.uk\n", "c.com:city.uk\na.com:b.com\n", impl.World{Rules: []string{"!city.uk", "*.uk", "com"}, Sets: setsOf("a.com:b.com", "c.com:city.uk")}},
		{"sets by these rules", "io.com\n", "io.com:b.com\na.io.com:c.com\n", impl.World{Rules: []string{"io.com"}, Sets: setsOf("a.io.com:c.com")}},
		{"those sets by others", "com\n", "io.com:b.com\na.io.com:c.com\n", impl.World{Rules: []string{"com"}, Sets: setsOf("io.com:b.com")}},
		{"lines that are none", "x y\nCOM\n!uk\n\ncom\ncom\n", "a.com\nx\na.com:b.com\nb.com:c.com\n", impl.World{Rules: []string{"com"}, Sets: setsOf("a.com:b.com")}},
		{"nothing but these", "\n\n X\n", ":\n,\n\n", impl.World{}},
		{"too many rules", strings.Join(manyRules(impl.MaxRules+5), "\n"), "", impl.World{Rules: manyRules(impl.MaxRules)}},
		{"too many sets", "", setsText(manySets(impl.MaxSets + 2)), impl.World{Sets: setsOf(manySets(impl.MaxSets)...)}},
	}
	for _, c := range cases {
		got := impl.WorldNew(c.rules, c.sets)
		sameWorldOut(t, c.what, got, impl.WorldOut{World: c.want})
		sameWorldOut(t, c.what+": by form", newByForm(c.rules, c.sets), impl.WorldOut{World: c.want})
		same(t, c.what+": right", impl.WorldRight(got.World), true)
	}
}

func newByForm(rules string, sets string) impl.WorldOut {
	if len(rules) > 8000 || len(sets) > 8000 {
		return impl.WorldOut{Code: impl.ErrSize}
	}
	read := impl.RulesRead(rules)
	return impl.WorldOut{World: impl.World{Rules: read, Sets: readByForm(read, sets)}}
}

// Texts of MaxBytes bytes and of one more, each of the two and both.
func TestWorldNewsBySize(t *testing.T) {
	filled := func(line string, size int) string { return line + strings.Repeat("\n", size-len(line)) }
	for _, rulesMore := range []int{-1, 0, 1, impl.MaxBytes} {
		for _, setsMore := range []int{-1, 0, 1, impl.MaxBytes} {
			rules, sets := filled("com", impl.MaxBytes+rulesMore), filled("a.com:b.com", impl.MaxBytes+setsMore)
			want := impl.WorldOut{Code: impl.ErrSize}
			if rulesMore <= 0 && setsMore <= 0 {
				want = impl.WorldOut{World: impl.World{Rules: []string{"com"}, Sets: setsOf("a.com:b.com")}}
			}
			sameWorldOut(t, fmt.Sprint(rulesMore, " and ", setsMore, " more than MaxBytes"), impl.WorldNew(rules, sets), want)
		}
	}
	sameWorldOut(t, "rules too long alone", impl.WorldNew(tooLong, ""), impl.WorldOut{Code: impl.ErrSize})
	sameWorldOut(t, "sets too long alone", impl.WorldNew("", tooLong), impl.WorldOut{Code: impl.ErrSize})
	sameWorldOut(t, "both too long", impl.WorldNew(tooLong, tooLong), impl.WorldOut{Code: impl.ErrSize})
}

func TestWorldNewsAreNewMemory(t *testing.T) {
	const rules, sets = "com\n*.uk\n!city.uk\n", "c.com:city.uk\na.com:b.com,e.com\n"
	staysAsItIs(t, "rules", rules, func(text string) string { return fmt.Sprint(impl.WorldNew(text, sets)) })
	staysAsItIs(t, "sets", sets, func(text string) string { return fmt.Sprint(impl.WorldNew(rules, text)) })
	var b inBytes
	got := impl.WorldNew(b.text(rules), b.text(sets))
	b.turn()
	want := impl.WorldNew(rules, sets)
	sameWorldOut(t, "behind the call", got, want)
	ownLists(t, got.World, want.World)
}

// ownLists: no two lists of one answer share any memory.
func ownLists(t *testing.T, got impl.World, want impl.World) {
	t.Helper()
	_ = append(got.Rules, "other")
	for i, s := range got.Sets {
		_ = append(s.Members, "other")
		for k := range s.Members {
			s.Members[k] = "other"
		}
		sameList(t, "the rules", got.Rules, want.Rules)
		sameSets(t, "the sets behind", got.Sets[i+1:], want.Sets[i+1:])
	}
	for i := range got.Rules {
		got.Rules[i] = "another"
	}
	for _, s := range got.Sets {
		same(t, "the members", slices.Contains(s.Members, "another"), false)
	}
}
