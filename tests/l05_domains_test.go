package tests

import (
	"regexp"
	"slices"
	"strings"
	"testing"
	"unsafe"

	"loop.example/g00551/impl"
)

// domains: by right rules, is a text a right domain?
var domains = []struct {
	what   string
	rules  []string
	domain string
	want   bool
}{
	{"no rules, two labels", nil, "a.com", true},
	{"no rules, an empty list", []string{}, "a.com", true},
	{"no rules, one label", nil, "com", false},
	{"no rules, three labels", nil, "x.a.com", false},
	{"no rules, six labels", nil, "1.2.3.4.5.6", false},
	{"none fits", []string{"*.uk", "com"}, "a.zz", true},
	{"none fits, one label", []string{"*.uk", "com"}, "zz", false},
	{"none fits, a label more", []string{"*.uk", "com"}, "x.a.zz", false},

	{"one fits", siteRules, "a.com", true},
	{"a suffix of one label", siteRules, "com", false},
	{"a label more than its domain", siteRules, "x.a.com", false},
	{"two labels more than its domain", siteRules, "y.x.a.com", false},
	{"a suffix of two labels", siteRules, "io.com", false},
	{"the longer one fits", siteRules, "a.io.com", true},
	{"a label more than the longer one's domain", siteRules, "b.a.io.com", false},

	{"by a star", siteRules, "shop.co.uk", true},
	{"by a star, another label", siteRules, "shop.ac.uk", true},
	{"by a star, a suffix", siteRules, "co.uk", false},
	{"by a star, what stands behind it", siteRules, "uk", false},
	{"by a star, a label more", siteRules, "www.shop.co.uk", false},
	{"by a star of more labels than it has", []string{"*.co.uk"}, "co.uk", true},
	{"by a star of as many labels", []string{"*.co.uk"}, "a.co.uk", false},

	{"by an exclamation mark", siteRules, "city.uk", true},
	{"by an exclamation mark, a label more", siteRules, "www.city.uk", false},
	{"by an exclamation mark alone", []string{"!city.uk"}, "city.uk", true},
	{"by an exclamation mark of three labels", []string{"!a.b.uk", "*.b.uk"}, "a.b.uk", true},
	{"beside an exclamation mark of three labels", []string{"!a.b.uk", "*.b.uk"}, "c.b.uk", false},

	{"as long as may be", []string{"2.3.4.5.6"}, "1.2.3.4.5.6", true},
	{"a suffix as long as may be", []string{"1.2.3.4.5.6"}, "1.2.3.4.5.6", false},
	{"the longest host", []string{longestHost[strings.Index(longestHost, ".")+1:]}, longestHost, true},
}

func TestDomains(t *testing.T) {
	for _, c := range domains {
		same(t, c.what, impl.DomainRight(c.rules, c.domain), c.want)
	}
	for _, c := range suffixes {
		same(t, c.what+": host", impl.DomainRight(c.rules, c.host), c.host == c.domain)
		same(t, c.what+": suffix", impl.DomainRight(c.rules, c.suffix), impl.SuffixOf(c.rules, c.suffix).Domain == c.suffix)
		same(t, c.what+": domain", impl.DomainRight(c.rules, c.domain), c.domain != "")
	}
}

func TestDomainsThatAreNoHosts(t *testing.T) {
	for _, host := range wrongHosts {
		for _, rules := range [][]string{nil, {"com"}, {"*.a"}, {"!a.b"}, siteRules} {
			same(t, shown(host), impl.DomainRight(rules, host), false)
		}
	}
	for _, text := range []string{"https://a.com", "a.com:80", "a.com/", "A.com", " a.com", "a.com ", "a.com\n", "*.uk", "!city.uk"} {
		same(t, text, impl.DomainRight(siteRules, text), false)
	}
}

func TestDomainsByWrongRules(t *testing.T) {
	for _, rules := range wrongRuleLists {
		// The empty one, too: of these rules its Domain would be empty as well.
		for _, domain := range []string{"", "a.com", "com", "x.a.com", "city.uk", tooLong} {
			same(t, shown(rules)+shown(domain), impl.DomainRight(rules, domain), false)
		}
	}
}

var hostForm = regexp.MustCompile(`^[a-z0-9]([a-z0-9-]{0,10}[a-z0-9])?(\.[a-z0-9]([a-z0-9-]{0,10}[a-z0-9])?){0,5}$`)

// domainByForm: is a text a right domain by right rules? By patterns.
func domainByForm(rules []string, domain string) bool {
	if !hostForm.MatchString(domain) || len(domain) > len(longestHost) {
		return false
	}
	var matches []string
	for _, rule := range rules {
		matches = append(matches, matchOf(rule, domain))
	}
	ahead, ok := strings.CutSuffix(domain, "."+suffixByForm(matches, rules, domain))
	return ok && !strings.Contains(ahead, ".")
}

func TestDomainsByUpToTwoRules(t *testing.T) {
	rules := rulesOf(3)
	for _, host := range hostsOf(4) {
		for i := range rules {
			for k := i; k < len(rules); k++ {
				l := slices.Compact([]string{rules[i], rules[k]})
				if got, want := impl.DomainRight(l, host), domainByForm(l, host); got != want {
					t.Fatalf("%q, %s: got %v, want %v", l, host, got, want)
				}
			}
		}
	}
}

func TestDomainsLeaveWhatIsHandedIn(t *testing.T) {
	const all = "!city.uk*.ukcomcity.uk"
	fields := []byte(all)
	rules := []string{unsafe.String(&fields[0], 8), unsafe.String(&fields[8], 4), unsafe.String(&fields[12], 3), "zzz"}
	held := slices.Clone(rules)
	same(t, "right", impl.DomainRight(rules[:3], unsafe.String(&fields[15], 7)), true)
	same(t, "the texts", string(fields), all)
	sameList(t, "the rules, and what lies behind them", rules, held)
}
