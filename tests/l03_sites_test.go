package tests

import (
	"slices"
	"testing"
	"unsafe"

	"loop.example/g00551/impl"
)

// Promise 6: two urls that are of one site each with a third are of one.

var siteRules = []string{"!city.uk", "*.uk", "com", "io.com"}

// sites: right urls, with their site by siteRules.
var sites = []struct {
	url  string
	site string
}{
	{"https://a.com/", "https://a.com"},
	{"https://x.a.com/", "https://a.com"},
	{"https://y.x.a.com/p", "https://a.com"},
	{"https://a.com:8443/p/q", "https://a.com"},
	{"https://z.a.com:80/", "https://a.com"},
	{"http://a.com/", "http://a.com"},
	{"http://x.a.com:443/", "http://a.com"},
	{"http://x.a.com:8080/p", "http://a.com"},
	{"https://b.com/", "https://b.com"},
	{"https://a.b.com/", "https://b.com"},
	{"http://b.com/", "http://b.com"},
	{"https://com/", "https://com"},
	{"https://com:444/p", "https://com"},
	{"http://com/", "http://com"},
	{"https://io.com/", "https://io.com"},
	{"https://io.com:1/p", "https://io.com"},
	{"https://a.io.com/", "https://a.io.com"},
	{"https://b.a.io.com/", "https://a.io.com"},
	{"https://uk/", "https://uk"},
	{"https://co.uk/", "https://co.uk"},
	{"https://co.uk:8080/x", "https://co.uk"},
	{"https://ac.uk/", "https://ac.uk"},
	{"https://shop.co.uk/", "https://shop.co.uk"},
	{"https://www.shop.co.uk/", "https://shop.co.uk"},
	{"https://shop.ac.uk/", "https://shop.ac.uk"},
	{"https://city.uk/", "https://city.uk"},
	{"https://www.city.uk/p", "https://city.uk"},
	{"https://zz/", "https://zz"},
	{"https://a.zz/", "https://a.zz"},
	{"https://b.a.zz/", "https://a.zz"},
	{"https://1.2.3.4.5.6/", "https://5.6"},
	{"https://5.6/", "https://5.6"},
}

func urlOf(t *testing.T, text string) impl.Url {
	t.Helper()
	out := impl.UrlRead(text)
	same(t, text, out.Code, impl.OK)
	return out.Url
}

func TestSites(t *testing.T) {
	for _, c := range sites {
		same(t, c.url, impl.SiteOf(siteRules, urlOf(t, c.url)), c.site)
	}
}

func TestSitesByOtherRules(t *testing.T) {
	u := urlOf(t, "https://z.y.x.com/")
	cases := []struct {
		rules []string
		want  string
	}{
		{nil, "https://x.com"},
		{[]string{}, "https://x.com"},
		{[]string{"com"}, "https://x.com"},
		{[]string{"x.com"}, "https://y.x.com"},
		{[]string{"*.com"}, "https://y.x.com"},
		{[]string{"*.x.com"}, "https://z.y.x.com"},
		{[]string{"z.y.x.com"}, "https://z.y.x.com"},
		{[]string{"!y.x.com", "*.x.com"}, "https://y.x.com"},
		{[]string{"!x.com", "*.com", "y.x.com"}, "https://x.com"},
		{[]string{"!z.y.x.com"}, "https://z.y.x.com"},
	}
	for _, c := range cases {
		same(t, shown(c.rules), impl.SiteOf(c.rules, u), c.want)
	}
	for _, c := range suffixes {
		host := c.domain
		if host == "" {
			host = c.host
		}
		for _, scheme := range []string{"http", "https"} {
			u := impl.Url{Scheme: scheme, Host: c.host, Port: 7, Path: "/p"}
			same(t, c.what, impl.SiteOf(c.rules, u), scheme+"://"+host)
		}
	}
}

func TestSitesTwoByTwo(t *testing.T) {
	for _, a := range sites {
		for _, b := range sites {
			got := impl.SameSite(siteRules, urlOf(t, a.url), urlOf(t, b.url))
			same(t, a.url+" and "+b.url, got, a.site == b.site)
		}
	}
}

func TestSitesByThrees(t *testing.T) {
	lists := [][]string{nil, {"com"}, {"*.com"}, {"a.com", "uk"}, {"*.a.com", "*.uk"}, siteRules, {"!a.com", "*.com", "x.a.com"}}
	count := len(sites)
	for _, l := range lists {
		one := make([]bool, count*count)
		for i, a := range sites {
			for k, b := range sites {
				one[i*count+k] = impl.SameSite(l, urlOf(t, a.url), urlOf(t, b.url))
			}
		}
		for i := range count {
			same(t, "a url and itself", one[i*count+i], true)
			for k := range count {
				same(t, "either way round", one[i*count+k], one[k*count+i])
				for m := range count {
					if one[i*count+k] && one[k*count+m] && !one[i*count+m] {
						t.Errorf("%q: %s, %s and %s", l, sites[i].url, sites[k].url, sites[m].url)
					}
				}
			}
		}
	}
}

func TestSitesOfWrongUrls(t *testing.T) {
	right := urlOf(t, "https://a.com/")
	for _, u := range wrongUrls {
		same(t, shown(u), impl.SiteOf(siteRules, u), "")
		same(t, shown(u)+" behind", impl.SameSite(siteRules, right, u), false)
		same(t, shown(u)+" ahead", impl.SameSite(siteRules, u, right), false)
		same(t, shown(u)+" twice", impl.SameSite(siteRules, u, u), false)
	}
	// A host that is right is not enough.
	for _, u := range []impl.Url{{Scheme: "https", Host: "a.com", Port: 443}, {Scheme: "https", Host: "a.com", Path: "/"}, {Host: "a.com", Port: 443, Path: "/"}} {
		same(t, shown(u), impl.SiteOf(siteRules, u), "")
		same(t, shown(u), impl.SameSite(siteRules, right, u), false)
		same(t, shown(u), impl.SameSite(siteRules, u, right), false)
	}
}

func TestSitesByWrongRules(t *testing.T) {
	u := urlOf(t, "https://a.com/")
	for _, l := range wrongRuleLists {
		same(t, shown(l), impl.SiteOf(l, u), "")
		same(t, shown(l), impl.SameSite(l, u, u), false)
		same(t, shown(l), impl.SiteOf(l, impl.Url{}), "")
		same(t, shown(l), impl.SameSite(l, impl.Url{}, impl.Url{}), false)
	}
}

func TestSitesAreNewMemory(t *testing.T) {
	for _, host := range []string{"uk", "co.uk", "www.city.uk", "x.a.com", "a.com"} {
		want := impl.SiteOf(siteRules, impl.Url{Scheme: "https", Host: host, Port: 1, Path: "/"})
		fields := []byte("https/*.uk" + host)
		u := impl.Url{Scheme: unsafe.String(&fields[0], 5), Host: unsafe.String(&fields[10], len(host)), Port: 1, Path: unsafe.String(&fields[5], 1)}
		rules := slices.Clone(siteRules)
		rules[1] = unsafe.String(&fields[6], 4)
		held := slices.Clone(rules)
		got := impl.SiteOf(rules, u)
		same(t, "of one site with itself", impl.SameSite(rules, u, u), true)
		same(t, "what was handed in", string(fields), "https/*.uk"+host)
		sameList(t, "the rules handed in", rules, held)
		clear(fields)
		same(t, "the site behind the call", got, want)
	}
}
