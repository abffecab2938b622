package tests

import (
	"regexp"
	"slices"
	"strings"
	"testing"
	"unsafe"

	"loop.example/g00551/impl"
)

// Promise 5: the suffix of a host is its last labels, and the domain one label
// more.

// suffixes: by right rules and a right host, what SuffixOf tells.
var suffixes = []struct {
	what   string
	rules  []string
	host   string
	suffix string
	domain string
}{
	{"no rules", nil, "www.shop.com", "com", "shop.com"},
	{"no rules, two labels", nil, "shop.com", "com", "shop.com"},
	{"no rules, one label", nil, "com", "com", ""},
	{"none fits", []string{"*.uk", "com"}, "x.a.zz", "zz", "a.zz"},
	{"none fits one label", []string{"*.uk", "com"}, "zz", "zz", ""},
	{"none fits by its middle", []string{"b.c"}, "a.b.c.d", "d", "c.d"},
	{"none fits by its first labels", []string{"a.b"}, "a.b.c", "c", "b.c"},
	{"a label's end is no label", []string{"om", "p.com"}, "x.shop.com", "com", "shop.com"},
	{"a label's begin is no label", []string{"b.co"}, "a.b.com", "com", "b.com"},

	{"one fits", []string{"com"}, "x.a.com", "com", "a.com"},
	{"one of two labels fits", []string{"co.uk"}, "x.shop.co.uk", "co.uk", "shop.co.uk"},
	{"one of three labels fits", []string{"a.co.uk"}, "z.y.a.co.uk", "a.co.uk", "y.a.co.uk"},
	{"one of two labels fits in but one", []string{"co.uk"}, "x.ac.uk", "uk", "ac.uk"},
	{"one fits the whole host", []string{"co.uk"}, "co.uk", "co.uk", ""},
	{"one fits the only label", []string{"com"}, "com", "com", ""},
	{"one label more than the host", []string{"co.uk"}, "uk", "uk", ""},
	{"one label more than the host of two", []string{"a.co.uk"}, "co.uk", "uk", "co.uk"},
	{"as long as the longest host", []string{"1.2.3.4.5.6"}, "1.2.3.4.5.6", "1.2.3.4.5.6", ""},
	{"one less than the longest host", []string{"2.3.4.5.6"}, "1.2.3.4.5.6", "2.3.4.5.6", "1.2.3.4.5.6"},

	{"two fit: the longer one", []string{"co.uk", "uk"}, "x.shop.co.uk", "co.uk", "shop.co.uk"},
	{"two fit: the longer one stands behind", []string{"uk", "x.uk"}, "a.x.uk", "x.uk", "a.x.uk"},
	{"three fit", []string{"b.c.d", "c.d", "d"}, "y.a.b.c.d", "b.c.d", "a.b.c.d"},
	{"three fit, the longest in the middle", []string{"c.d", "d", "e.c.d"}, "a.e.c.d", "e.c.d", "a.e.c.d"},
	{"the longer one does not fit", []string{"ac.uk", "uk"}, "x.shop.co.uk", "uk", "co.uk"},
	{"the longer one is longer than the host", []string{"co.uk", "uk"}, "uk", "uk", ""},

	{"any fits", []string{"*.uk"}, "www.shop.co.uk", "co.uk", "shop.co.uk"},
	{"any fits as many labels", []string{"*.uk"}, "co.uk", "co.uk", ""},
	{"any is not no label", []string{"*.uk"}, "uk", "uk", ""},
	{"any is one label alone", []string{"*.uk"}, "a.b.c.uk", "c.uk", "b.c.uk"},
	{"any of two", []string{"*.co.uk"}, "x.a.co.uk", "a.co.uk", "x.a.co.uk"},
	{"any of two, as many labels", []string{"*.co.uk"}, "a.co.uk", "a.co.uk", ""},
	{"any of two, one label more than the host", []string{"*.co.uk"}, "co.uk", "uk", "co.uk"},
	{"any of six is more than a host has", []string{"*.1.2.3.4.5.6"}, "1.2.3.4.5.6", "6", "5.6"},
	{"any of five is all of a host", []string{"*.2.3.4.5.6"}, "1.2.3.4.5.6", "1.2.3.4.5.6", ""},
	{"any of another", []string{"*.us"}, "a.b.uk", "uk", "b.uk"},
	{"any and a plain one as long", []string{"*.uk", "co.uk"}, "a.co.uk", "co.uk", "a.co.uk"},
	{"any and a shorter one", []string{"*.uk", "uk"}, "a.co.uk", "co.uk", "a.co.uk"},
	{"any and a shorter one, of it alone", []string{"*.uk", "uk"}, "uk", "uk", ""},
	{"any and a longer one", []string{"*.uk", "b.co.uk"}, "a.b.co.uk", "b.co.uk", "a.b.co.uk"},
	{"any and a longer one that does not fit", []string{"*.uk", "b.co.uk"}, "a.c.co.uk", "co.uk", "c.co.uk"},
	{"two with any", []string{"*.co.uk", "*.uk"}, "x.a.co.uk", "a.co.uk", "x.a.co.uk"},

	{"but fits, alone", []string{"!city.uk"}, "z.city.uk", "uk", "city.uk"},
	{"but fits the whole host", []string{"!city.uk"}, "city.uk", "uk", "city.uk"},
	{"but fits far within", []string{"!city.uk"}, "a.b.c.city.uk", "uk", "city.uk"},
	{"but does not fit", []string{"!city.uk"}, "a.town.uk", "uk", "town.uk"},
	{"but has one label more", []string{"!city.uk"}, "uk", "uk", ""},
	{"but of three has one label more", []string{"!a.city.uk"}, "city.uk", "uk", "city.uk"},
	{"but of three fits", []string{"!a.city.uk"}, "z.a.city.uk", "city.uk", "a.city.uk"},
	{"but of six fits", []string{"!1.2.3.4.5.6"}, "1.2.3.4.5.6", "2.3.4.5.6", "1.2.3.4.5.6"},
	{"but and any", []string{"!city.uk", "*.uk"}, "z.city.uk", "uk", "city.uk"},
	{"but and any, of another", []string{"!city.uk", "*.uk"}, "z.y.town.uk", "town.uk", "y.town.uk"},
	{"but and a plain one as long", []string{"!city.uk", "city.uk"}, "z.city.uk", "uk", "city.uk"},
	{"but beside a longer one", []string{"!city.uk", "z.city.uk"}, "y.z.city.uk", "uk", "city.uk"},
	{"but beside a longer one of all labels", []string{"!city.uk", "y.z.city.uk"}, "y.z.city.uk", "uk", "city.uk"},
	{"but beside a longer one with any", []string{"!city.uk", "*.z.city.uk"}, "x.y.z.city.uk", "uk", "city.uk"},
	{"but beside a shorter one", []string{"!a.city.uk", "uk"}, "z.a.city.uk", "city.uk", "a.city.uk"},
	{"two with but", []string{"!a.city.uk", "!city.uk"}, "z.a.city.uk", "city.uk", "a.city.uk"},
	{"two with but, the longer one behind", []string{"!city.uk", "!z.city.uk"}, "y.z.city.uk", "city.uk", "z.city.uk"},
	{"two with but, one fits", []string{"!a.city.uk", "!city.uk"}, "b.city.uk", "uk", "city.uk"},
	{"two with but and any", []string{"!a.b.uk", "!c.uk", "*.b.uk", "*.uk"}, "z.a.b.uk", "b.uk", "a.b.uk"},
	{"all longest labels", []string{"*.zbcdefghijky"}, longestHost, "abcdefghijkl.zbcdefghijky", "abcdefghijkl.abcdefghijkl.zbcdefghijky"},
	{"labels all alike", []string{"a.a.a"}, "a.a.a.a.a.a", "a.a.a", "a.a.a.a"},
}

func TestSuffixes(t *testing.T) {
	for _, c := range suffixes {
		same(t, c.what, impl.RulesRight(c.rules), true)
		same(t, c.what, impl.SuffixOf(c.rules, c.host), impl.SuffixOut{Suffix: c.suffix, Domain: c.domain})
	}
}

func TestSuffixesByMostRules(t *testing.T) {
	rules := manyRules(impl.MaxRules)
	same(t, "the last of most rules", impl.SuffixOf(append(rules[:impl.MaxRules-1:impl.MaxRules-1], "s.r001"), "x.y.s.r001"), impl.SuffixOut{Suffix: "s.r001", Domain: "y.s.r001"})
	same(t, "one rule too many", impl.SuffixOf(manyRules(impl.MaxRules+1), "x.com"), impl.SuffixOut{})
	same(t, "more than a list may have", impl.SuffixOf(manyRules(impl.MaxList+1), "x.com"), impl.SuffixOut{})
}

func TestSuffixesOfWhatIsWrong(t *testing.T) {
	for _, rules := range wrongRuleLists {
		same(t, shown(rules), impl.SuffixOf(rules, "x.a.com"), impl.SuffixOut{})
	}
	for _, host := range wrongHosts {
		same(t, shown(host), impl.SuffixOf(nil, host), impl.SuffixOut{})
		same(t, shown(host), impl.SuffixOf([]string{"*.a", "com"}, host), impl.SuffixOut{})
		same(t, shown(host), impl.SuffixOf([]string{"b", "a"}, host), impl.SuffixOut{})
	}
}

var wrongRuleLists = [][]string{
	{""}, {"com", ""}, {"", "com"}, {"!uk"}, {"*"}, {"b", "a"}, {"com", "com"}, {"com", "*.uk"}, {"com", "x.COM"}, {"*.*.a", "com"},
	{"com", tooLong}, manyRules(21), manyRules(401),
}

// hostsOf: all hosts of 1 to so many labels, each a or b.
func hostsOf(most int) []string {
	last := []string{"a", "b"}
	all := slices.Clone(last)
	for range most - 1 {
		var next []string
		for _, host := range last {
			next = append(next, "a."+host, "b."+host)
		}
		all = append(all, next...)
		last = next
	}
	return all
}

// rulesOf: all rules of 1 to so many labels (`*` is one of them), each a or b.
func rulesOf(most int) []string {
	rules := hostsOf(most)
	for _, host := range hostsOf(most - 1) {
		rules = append(rules, "*."+host)
	}
	for _, host := range hostsOf(most) {
		if strings.Contains(host, ".") {
			rules = append(rules, "!"+host)
		}
	}
	slices.Sort(rules)
	return rules
}

// matchOf: what of a host a rule stands for, by a pattern; empty, if it does
// not fit.
func matchOf(rule string, host string) string {
	form := strings.TrimPrefix(rule, "!")
	form = strings.ReplaceAll(regexp.QuoteMeta(form), `\*`, `[^.]+`)
	found := regexp.MustCompile(`(?:^|\.)(` + form + `)$`).FindStringSubmatch(host)
	if found == nil {
		return ""
	}
	return found[1]
}

func suffixByForm(matches []string, rules []string, host string) string {
	but, plain := "", host[strings.LastIndex(host, ".")+1:]
	for i, match := range matches {
		if rules[i][0] == '!' && len(match) > len(but) {
			but = match
		}
		if rules[i][0] != '!' && len(match) > len(plain) {
			plain = match
		}
	}
	if but != "" {
		return but[strings.Index(but, ".")+1:]
	}
	return plain
}

func TestSuffixesByAllOfUpToThreeRules(t *testing.T) {
	rules := rulesOf(3)
	for _, host := range hostsOf(4) {
		var matches []string
		for _, rule := range rules {
			matches = append(matches, matchOf(rule, host))
		}
		for i := range rules {
			for k := i; k < len(rules); k++ {
				for m := k; m < len(rules); m++ {
					places := slices.Compact([]int{i, k, m})
					l, fit := make([]string, 0, 3), make([]string, 0, 3)
					for _, p := range places {
						l, fit = append(l, rules[p]), append(fit, matches[p])
					}
					want := suffixByForm(fit, l, host)
					if got := impl.SuffixOf(l, host); got.Suffix != want || !isDomain(got, host) {
						t.Fatalf("%q, %s: got %+v, want the suffix %s", l, host, got, want)
					}
				}
			}
		}
	}
}

// isDomain: is the suffix the host's last labels, and Domain one label more?
func isDomain(out impl.SuffixOut, host string) bool {
	if out.Suffix == host {
		return out.Domain == ""
	}
	ahead, ok := strings.CutSuffix(host, "."+out.Suffix)
	if !ok || out.Suffix == "" {
		return false
	}
	return out.Domain == ahead[strings.LastIndex(ahead, ".")+1:]+"."+out.Suffix
}

func TestSuffixesAreLastLabels(t *testing.T) {
	lists := [][]string{nil, {"com"}, {"!city.uk", "*.uk", "com"}, slices.Sorted(slices.Values(rightRules)), manyRules(impl.MaxRules)}
	for _, l := range lists {
		for _, c := range hosts {
			if got := impl.SuffixOf(l, c.host); !isDomain(got, c.host) {
				t.Errorf("%q, %s: got %+v", l, c.host, got)
			}
		}
	}
}

func TestSuffixesAreNewMemory(t *testing.T) {
	for _, host := range []string{"uk", "co.uk", "city.uk", "x.city.uk", "x.shop.co.uk", "a.com"} {
		want := impl.SuffixOf([]string{"!city.uk", "*.uk", "com"}, host)
		fields := []byte("!city.uk*.ukcom" + host)
		rules := []string{unsafe.String(&fields[0], 8), unsafe.String(&fields[8], 4), unsafe.String(&fields[12], 3), "zzz"}
		held := slices.Clone(rules)
		got := impl.SuffixOf(rules[:3], unsafe.String(&fields[15], len(host)))
		same(t, "what was handed in", string(fields), "!city.uk*.ukcom"+host)
		sameList(t, "the rules handed in, and what lies behind them", rules, held)
		clear(fields)
		same(t, "the suffix behind the call", got, want)
	}
}
