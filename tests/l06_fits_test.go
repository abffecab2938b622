package tests

import (
	"regexp"
	"strings"
	"testing"

	"loop.example/g00551/impl"
)

// Which host fits which domain, and which path which prefix.

func TestHostFits(t *testing.T) {
	cases := []struct {
		what   string
		host   string
		domain string
		want   bool
	}{
		{"the same", "a.com", "a.com", true},
		{"the same of one label", "com", "com", true},
		{"the longest", longestHost, longestHost, true},
		{"a label ahead", "x.a.com", "a.com", true},
		{"two labels ahead", "y.x.a.com", "a.com", true},
		{"five labels ahead", "1.2.3.4.5.6", "6", true},
		{"a suffix", "a.com", "com", true},
		{"the same letters, not behind a dot", "xa.com", "a.com", false},
		{"the same letters behind a hyphen", "x-a.com", "a.com", false},
		{"the same letters in one label", "acom", "com", false},
		{"the other way round", "a.com", "x.a.com", false},
		{"it begins with it", "a.com.uk", "a.com", false},
		{"it is in it", "x.a.com.uk", "a.com", false},
		{"another one", "a.com", "b.com", false},
		{"another one as long", "b.a.com", "a.com.b", false},
		{"another label ahead", "x.a.com", "y.a.com", false},
	}
	for _, c := range cases {
		same(t, c.what, impl.HostFits(c.host, c.domain), c.want)
		same(t, c.what+": by form", hostFitsByForm(c.host, c.domain), c.want)
	}
}

func TestHostFitsOfWhatIsWrong(t *testing.T) {
	for _, host := range wrongHosts {
		same(t, shown(host)+" twice", impl.HostFits(host, host), false)
		same(t, shown(host)+" for the host", impl.HostFits(host, "a.com"), false)
		same(t, shown(host)+" for the domain", impl.HostFits("a.com", host), false)
		same(t, shown(host)+" ahead of the domain", impl.HostFits(host+".a.com", "a.com"), impl.HostRight(host+".a.com"))
	}
	same(t, "a dot ahead of the domain", impl.HostFits("x.a.com", ".a.com"), false)
	same(t, "no domain", impl.HostFits("x.a.com", ""), false)
	same(t, "seven labels", impl.HostFits("1.2.3.4.5.6.7", "6.7"), false)
	same(t, "in capitals", impl.HostFits("x.A.com", "A.com"), false)
}

func hostFitsByForm(host string, domain string) bool {
	return hostForm.MatchString(host) && hostForm.MatchString(domain) && strings.HasSuffix("."+host, "."+domain)
}

func TestHostFitsTwoByTwo(t *testing.T) {
	all := append(hostsOf(4), "aa", "aa.b", "b.aa", "ba.b", "a.ba", "", ".", "a.", ".a")
	for _, host := range all {
		for _, domain := range all {
			same(t, host+" and "+domain, impl.HostFits(host, domain), hostFitsByForm(host, domain))
		}
	}
}

func TestPathFits(t *testing.T) {
	cases := []struct {
		what   string
		path   string
		prefix string
		want   bool
	}{
		{"the shortest", "/", "/", true},
		{"the same", "/p", "/p", true},
		{"the same with a slash at the end", "/p/", "/p/", true},
		{"the longest", longestPath, longestPath, true},
		{"a prefix that ends with a slash", "/p/q", "/p/", true},
		{"a prefix that is a slash", "/p", "/", true},
		{"a prefix that is a slash, of two", "//", "/", true},
		{"the next byte is a slash", "/p/q", "/p", true},
		{"the next byte is a slash, and the last one", "/p/", "/p", true},
		{"the next byte is another", "/pq", "/p", false},
		{"the next byte is another, then a slash", "/pq/", "/p", false},
		{"the next byte is a dot", "/p.q", "/p", false},
		{"without the slash at the end", "/p", "/p/", false},
		{"the other way round", "/p", "/p/q", false},
		{"another one", "/p", "/q", false},
		{"another one as long, then a slash", "/p/r", "/q/", false},
		{"within", "/x/p/q", "/p", false},
		{"in capitals", "/P/q", "/p", false},
	}
	for _, c := range cases {
		same(t, c.what, impl.PathFits(c.path, c.prefix), c.want)
		same(t, c.what+": by form", pathFitsByForm(c.path, c.prefix), c.want)
	}
}

func TestPathFitsOfWhatIsWrong(t *testing.T) {
	for _, path := range []string{"", "p", "p/", " /", "/ ", "/a b", "/?", "/#", "/;", "/é", "/\x00", "/\xff", longestPath + "z", "/" + tooLong, tooLong} {
		same(t, shown(path)+" twice", impl.PathFits(path, path), false)
		same(t, shown(path)+" for the path", impl.PathFits(path, "/"), false)
		same(t, shown(path)+" for the prefix", impl.PathFits("/", path), false)
		same(t, shown(path)+" for the prefix of a longer one", impl.PathFits("/p/q", path), false)
	}
	same(t, "a path too long of a right prefix", impl.PathFits(longestPath+"/", longestPath), false)
	same(t, "no prefix", impl.PathFits("/p", ""), false)
}

func pathFitsByForm(path string, prefix string) bool {
	if !pathForm.MatchString(path) || !pathForm.MatchString(prefix) {
		return false
	}
	form := "^" + regexp.QuoteMeta(prefix)
	if !strings.HasSuffix(prefix, "/") {
		form += "(/|$)"
	}
	return regexp.MustCompile(form).MatchString(path)
}

func TestPathFitsTwoByTwo(t *testing.T) {
	all := []string{""}
	for at := 0; len(all) < 1+3+9+27+81; at++ {
		all = append(all, all[at]+"/", all[at]+"a", all[at]+"b")
	}
	for _, path := range all {
		for _, prefix := range all {
			if got, want := impl.PathFits(path, prefix), pathFitsByForm(path, prefix); got != want {
				t.Fatalf("%q and %q: got %v, want %v", path, prefix, got, want)
			}
		}
	}
}

func TestFitsLeaveWhatIsHandedIn(t *testing.T) {
	staysAsItIs(t, "host", "x.a.com", func(text string) string { return shown(impl.HostFits(text, text[2:])) })
	staysAsItIs(t, "path", "/p/q", func(text string) string { return shown(impl.PathFits(text, text[:2])) })
}
