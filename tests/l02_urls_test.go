package tests

import (
	"regexp"
	"strconv"
	"strings"
	"testing"
	"unsafe"

	"loop.example/g00551/impl"
)

// Promise 3: a right url comes back from its text.

const longestPath = "/23456789012345678901234567890123456789z"

// urls: right ones, with their texts.
var urls = []struct {
	url  impl.Url
	text string
}{
	{impl.Url{Scheme: "http", Host: "a.com", Port: 80, Path: "/"}, "http://a.com/"},
	{impl.Url{Scheme: "https", Host: "a.com", Port: 443, Path: "/"}, "https://a.com/"},
	{impl.Url{Scheme: "https", Host: "x.a.com", Port: 8080, Path: "/p"}, "https://x.a.com:8080/p"},
	{impl.Url{Scheme: "http", Host: "a", Port: 443, Path: "/"}, "http://a:443/"},
	{impl.Url{Scheme: "https", Host: "a", Port: 80, Path: "/"}, "https://a:80/"},
	{impl.Url{Scheme: "http", Host: "a", Port: 1, Path: "/"}, "http://a:1/"},
	{impl.Url{Scheme: "https", Host: "a", Port: 1, Path: "/"}, "https://a:1/"},
	{impl.Url{Scheme: "http", Host: "a", Port: 79, Path: "/"}, "http://a:79/"},
	{impl.Url{Scheme: "http", Host: "a", Port: 81, Path: "/"}, "http://a:81/"},
	{impl.Url{Scheme: "https", Host: "a", Port: 442, Path: "/"}, "https://a:442/"},
	{impl.Url{Scheme: "https", Host: "a", Port: 444, Path: "/"}, "https://a:444/"},
	{impl.Url{Scheme: "http", Host: "a", Port: 65534, Path: "/"}, "http://a:65534/"},
	{impl.Url{Scheme: "http", Host: "a", Port: 65535, Path: "/"}, "http://a:65535/"},
	{impl.Url{Scheme: "https", Host: "a", Port: 65535, Path: "/"}, "https://a:65535/"},
	{impl.Url{Scheme: "http", Host: "a.b", Port: 80, Path: "//"}, "http://a.b//"},
	{impl.Url{Scheme: "http", Host: "a.b", Port: 80, Path: "/:80/"}, "http://a.b/:80/"},
	{impl.Url{Scheme: "https", Host: "a.b", Port: 8443, Path: "/http://c.d:1/"}, "https://a.b:8443/http://c.d:1/"},
	{impl.Url{Scheme: "https", Host: "80", Port: 80, Path: "/80"}, "https://80:80/80"},
	{impl.Url{Scheme: "https", Host: "http", Port: 443, Path: "/https"}, "https://http/https"},
	{impl.Url{Scheme: "http", Host: "a-b.c", Port: 80, Path: "/!~Aa0=&,\"'"}, "http://a-b.c/!~Aa0=&,\"'"},
	{impl.Url{Scheme: "https", Host: "a.b.c.d.e.f", Port: 443, Path: longestPath}, "https://a.b.c.d.e.f" + longestPath},
	{impl.Url{Scheme: "https", Host: longestHost, Port: 65535, Path: longestPath}, "https://" + longestHost + ":65535" + longestPath},
}

// wrongUrls: each has one thing that may not be.
var wrongUrls = []impl.Url{
	{},
	{Host: "a.com", Port: 80, Path: "/"},
	{Scheme: "http", Port: 80, Path: "/"},
	{Scheme: "http", Host: "a.com", Path: "/"},
	{Scheme: "http", Host: "a.com", Port: 80},
	{Scheme: "ftp", Host: "a.com", Port: 80, Path: "/"},
	{Scheme: "HTTP", Host: "a.com", Port: 80, Path: "/"},
	{Scheme: "Https", Host: "a.com", Port: 443, Path: "/"},
	{Scheme: "httpss", Host: "a.com", Port: 443, Path: "/"},
	{Scheme: "htt", Host: "a.com", Port: 80, Path: "/"},
	{Scheme: "http:", Host: "a.com", Port: 80, Path: "/"},
	{Scheme: "http", Host: "a..com", Port: 80, Path: "/"},
	{Scheme: "http", Host: "A.com", Port: 80, Path: "/"},
	{Scheme: "http", Host: "1.2.3.4.5.6.7", Port: 80, Path: "/"},
	{Scheme: "http", Host: tooLong, Port: 80, Path: "/"},
	{Scheme: tooLong, Host: "a.com", Port: 80, Path: "/"},
	{Scheme: "http", Host: "a.com", Port: -1, Path: "/"},
	{Scheme: "http", Host: "a.com", Port: 65536, Path: "/"},
	{Scheme: "http", Host: "a.com", Port: 65536 + 80, Path: "/"},
	{Scheme: "http", Host: "a.com", Port: 1<<32 + 80, Path: "/"},
	{Scheme: "http", Host: "a.com", Port: 1<<63 - 1, Path: "/"},
	{Scheme: "http", Host: "a.com", Port: -1 << 63, Path: "/"},
	{Scheme: "http", Host: "a.com", Port: 80, Path: "p"},
	{Scheme: "http", Host: "a.com", Port: 80, Path: "p/"},
	{Scheme: "http", Host: "a.com", Port: 80, Path: longestPath + "z"},
	{Scheme: "http", Host: "a.com", Port: 80, Path: "/" + tooLong},
}

func TestUrlsThatAreRight(t *testing.T) {
	for _, c := range urls {
		same(t, c.text, impl.UrlRight(c.url), true)
	}
}

func TestUrlsThatAreWrong(t *testing.T) {
	for _, u := range wrongUrls {
		same(t, shown(u), impl.UrlRight(u), false)
	}
}

func TestUrlTexts(t *testing.T) {
	for _, c := range urls {
		same(t, "text", impl.UrlText(c.url), c.text)
	}
	for _, u := range wrongUrls {
		same(t, "text of "+shown(u), impl.UrlText(u), "")
	}
}

func TestUrlsComeBack(t *testing.T) {
	for _, c := range urls {
		same(t, c.text, impl.UrlRead(c.text), impl.UrlOut{Url: c.url})
	}
}

func TestUrlsOfEachPortComeBack(t *testing.T) {
	for port := int64(-2); port <= 65540; port++ {
		for _, scheme := range []string{"http", "https"} {
			u := impl.Url{Scheme: scheme, Host: "a.com", Port: port, Path: "/p"}
			out := impl.UrlOut{Url: u}
			text := scheme + "://a.com:" + strconv.FormatInt(port, 10) + "/p"
			own := scheme == "http" && port == 80 || scheme == "https" && port == 443
			if right := port >= 1 && port <= 65535; !right {
				same(t, text, impl.UrlRight(u), false)
				out = impl.UrlOut{Code: impl.ErrSyntax}
			} else if own {
				same(t, text, impl.UrlText(u), scheme+"://a.com/p")
				out = impl.UrlOut{Code: impl.ErrSyntax}
			} else {
				same(t, text, impl.UrlText(u), text)
			}
			same(t, text, impl.UrlRead(text), out)
		}
	}
}

func TestPathsByByte(t *testing.T) {
	for i := range 256 {
		b := string([]byte{byte(i)})
		right := i >= 33 && i <= 126 && !strings.Contains("?#;", b)
		for _, path := range []string{"/" + b, "/" + b + "z", "/a" + b + "z", longestPath[:39] + b} {
			u := impl.Url{Scheme: "https", Host: "a.com", Port: 443, Path: path}
			out := impl.UrlOut{Url: u}
			if !right {
				out = impl.UrlOut{Code: impl.ErrSyntax}
			}
			same(t, "path "+path, impl.UrlRight(u), right)
			same(t, "path "+path, impl.UrlRead("https://a.com"+path), out)
		}
		u := impl.Url{Scheme: "https", Host: "a.com", Port: 443, Path: b}
		same(t, "path "+b, impl.UrlRight(u), b == "/")
	}
}

func TestPathsByLength(t *testing.T) {
	for size := range 60 {
		path := strings.Repeat("/", size)
		u := impl.Url{Scheme: "http", Host: "a.com", Port: 80, Path: path}
		out := impl.UrlOut{Url: u}
		right := size >= 1 && size <= 40
		if !right {
			out = impl.UrlOut{Code: impl.ErrSyntax}
		}
		same(t, "path "+path, impl.UrlRight(u), right)
		same(t, "path "+path, impl.UrlRead("http://a.com"+path), out)
	}
}

var wrongUrlTexts = []string{
	"", "/", ":", "://", ":///", "http", "http:", "http:/", "http://", "http:///", "http://:80/", "http://:/",
	"a.com/", "//a.com/", "://a.com/", "http:/a.com/", "http:a.com/", "http//a.com/", "http:///a.com/",
	"http://a.com", "https://a.com", "http://a.com:81", "https://a.com:8080", "http://a.com:",
	"ftp://a.com/", "ws://a.com/", "httpss://a.com/", "htt://a.com/", "http+s://a.com/", " http://a.com/", "null://a.com/",
	"HTTP://a.com/", "Http://a.com/", "httpS://a.com/", "http://A.com/", "http://a.Com/", "http://a.coM:81/",
	"http://a.com:80/", "https://a.com:443/", "http://a.com:080/", "http://a.com:0080/", "https://a.com:0443/",
	"http://a.com:081/", "http://a.com:01/", "http://a.com:00001/", "http://a.com:065535/",
	"http://a.com:" + strings.Repeat("0", 400) + "81/",
	"http://a.com:+81/", "http://a.com:-81/", "http://a.com:-1/", "http://a.com:/", "http://a.com: 81/", "http://a.com:81 /",
	"http://a.com:0/", "http://a.com:00/", "http://a.com:65536/", "http://a.com:99999/", "http://a.com:100000/",
	"http://a.com:655350/", "http://a.com:65616/", "http://a.com:4294967377/", "http://a.com:18446744073709551697/",
	"http://a.com:36893488147419103313/", "http://a.com:" + strings.Repeat("9", 400) + "/",
	"http://a.com:8a/", "http://a.com:a/", "http://a.com:0x51/", "http://a.com:8_1/", "http://a.com:81.0/", "http://a.com:81e0/",
	"http://a.com:81:82/", "http://a.com::81/", "http://a.com:81:/", "http://a.com:٨١/", "http://a.com:８１/",
	"http://a.com:81p", "http://a.com:81?p", "http://a.comp?/", "http://a.com\\p/",
	"http://a..com/", "http://.a/", "http://a./", "http://-a/", "http://a-/", "http://1.2.3.4.5.6.7/", "http://abcdefghijklm/",
	"http://u@a.com/", "http://a_b/", "http://a b/", "http://é/",
	"http://a.com/?", "http://a.com/p?q", "http://a.com/#", "http://a.com/p#q", "http://a.com/;", "http://a.com/p;q",
	"http://a.com?q", "http://a.com#q", "http://a.com;q",
	"http://a.com/ ", "http://a.com/p q", "http://a.com/\n", "http://a.com/\x7f", "http://a.com/\x80", "http://a.com/é",
	"http://a.com/\x00", "http://a.com" + longestPath + "z", "http://a.com:81" + longestPath + "z",
	"http://http://a.com/", "null#3", "https://a.com/\nhttps://a.com/",
}

func TestUrlTextsThatAreWrong(t *testing.T) {
	for _, text := range wrongUrlTexts {
		same(t, shown(text), impl.UrlRead(text), impl.UrlOut{Code: impl.ErrSyntax})
	}
	long := "http://a.com/" + tooLong
	same(t, "MaxBytes bytes", impl.UrlRead(long[:impl.MaxBytes]), impl.UrlOut{Code: impl.ErrSyntax})
	same(t, "one more", impl.UrlRead(long[:impl.MaxBytes+1]), impl.UrlOut{Code: impl.ErrSize})
	same(t, "one more, of nothing right", impl.UrlRead(tooLong), impl.UrlOut{Code: impl.ErrSize})
}

// urlForm is what the document says of a text, in one piece; that the port is
// no greater than it may be, and not the scheme's own, is asked beside it.
var urlForm = regexp.MustCompile(`^(https?)://((?:[a-z0-9]([a-z0-9-]{0,10}[a-z0-9])?\.){0,5}[a-z0-9]([a-z0-9-]{0,10}[a-z0-9])?)` +
	`(?::([1-9][0-9]{0,4}))?(/[!"$-:<->@-~]{0,39})$`)

func urlByForm(text string) impl.UrlOut {
	wrong := impl.UrlOut{Code: impl.ErrSyntax}
	m := urlForm.FindStringSubmatch(text)
	if m == nil {
		return wrong
	}
	own := map[string]string{"http": "80", "https": "443"}[m[1]]
	if m[5] == own {
		return wrong
	}
	if m[5] == "" {
		m[5] = own
	}
	port, err := strconv.ParseInt(m[5], 10, 64)
	if err != nil || port > 65535 {
		return wrong
	}
	return impl.UrlOut{Url: impl.Url{Scheme: m[1], Host: m[2], Port: port, Path: m[6]}}
}

func TestUrlTextsWithOneByteTurned(t *testing.T) {
	for _, c := range urls {
		for at := range len(c.text) + 1 {
			short := c.text[:at]
			same(t, short, impl.UrlRead(short), urlByForm(short))
			for i := range 256 {
				b := string([]byte{byte(i)})
				put := c.text[:at] + b + c.text[at:]
				same(t, put, impl.UrlRead(put), urlByForm(put))
				if at < len(c.text) {
					turned := c.text[:at] + b + c.text[at+1:]
					same(t, turned, impl.UrlRead(turned), urlByForm(turned))
				}
			}
			if at < len(c.text) {
				without := c.text[:at] + c.text[at+1:]
				same(t, without, impl.UrlRead(without), urlByForm(without))
			}
		}
	}
}

func TestUrlsAreNewMemory(t *testing.T) {
	const text = "https://x.a.com:8080/p"
	staysAsItIs(t, "UrlRead", text, func(s string) string {
		u := impl.UrlRead(s).Url
		return u.Scheme + "|" + u.Host + "|" + u.Path
	})
	b := []byte(text)
	got := impl.UrlRead(unsafe.String(&b[0], len(b)))
	clear(b)
	same(t, "what was read, behind the call", got.Url, impl.Url{Scheme: "https", Host: "x.a.com", Port: 8080, Path: "/p"})

	fields := []byte("httpa.com/p")
	u := impl.Url{Scheme: unsafe.String(&fields[0], 4), Host: unsafe.String(&fields[4], 5), Port: 81, Path: unsafe.String(&fields[9], 2)}
	written := impl.UrlText(u)
	same(t, "what was handed in", string(fields), "httpa.com/p")
	clear(fields)
	same(t, "what was written, behind the call", written, "http://a.com:81/p")
}
