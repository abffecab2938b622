package tests

import (
	"strconv"
	"testing"
	"unsafe"

	"loop.example/g00551/impl"
)

// Promise 4: two right origins are the same just if their texts are.

// origins: right ones, with their texts, no two alike.
var origins = []struct {
	origin impl.Origin
	text   string
}{
	{impl.Origin{Scheme: "http", Host: "a.com", Port: 80}, "http://a.com"},
	{impl.Origin{Scheme: "https", Host: "a.com", Port: 443}, "https://a.com"},
	{impl.Origin{Scheme: "http", Host: "a.com", Port: 443}, "http://a.com:443"},
	{impl.Origin{Scheme: "https", Host: "a.com", Port: 80}, "https://a.com:80"},
	{impl.Origin{Scheme: "http", Host: "a.com", Port: 1}, "http://a.com:1"},
	{impl.Origin{Scheme: "https", Host: "a.com", Port: 1}, "https://a.com:1"},
	{impl.Origin{Scheme: "http", Host: "a.com", Port: 79}, "http://a.com:79"},
	{impl.Origin{Scheme: "https", Host: "a.com", Port: 444}, "https://a.com:444"},
	{impl.Origin{Scheme: "https", Host: "a.com", Port: 65535}, "https://a.com:65535"},
	{impl.Origin{Scheme: "https", Host: "x.a.com", Port: 443}, "https://x.a.com"},
	{impl.Origin{Scheme: "https", Host: "x.a.com", Port: 8080}, "https://x.a.com:8080"},
	{impl.Origin{Scheme: "https", Host: "a.co", Port: 443}, "https://a.co"},
	{impl.Origin{Scheme: "http", Host: "a", Port: 80}, "http://a"},
	{impl.Origin{Scheme: "http", Host: "null", Port: 80}, "http://null"},
	{impl.Origin{Scheme: "https", Host: longestHost, Port: 65534}, "https://" + longestHost + ":65534"},
	{impl.Origin{Nonce: 1}, "null#1"},
	{impl.Origin{Nonce: 2}, "null#2"},
	{impl.Origin{Nonce: 3}, "null#3"},
	{impl.Origin{Nonce: 10}, "null#10"},
	{impl.Origin{Nonce: 80}, "null#80"},
	{impl.Origin{Nonce: impl.MaxTime - 1}, "null#999999"},
	{impl.Origin{Nonce: impl.MaxTime}, "null#1000000"},
}

var wrongOrigins = []impl.Origin{
	{},
	{Nonce: -1},
	{Nonce: -impl.MaxTime},
	{Nonce: -1 << 63},
	{Nonce: impl.MaxTime + 1},
	{Nonce: 1<<63 - 1},
	{Nonce: 1<<32 + 1},
	{Nonce: 3, Scheme: "http"},
	{Nonce: 3, Host: "a.com"},
	{Nonce: 3, Port: 1},
	{Nonce: 3, Port: -1},
	{Nonce: 3, Scheme: "https", Host: "a.com", Port: 443},
	{Nonce: -1, Scheme: "https", Host: "a.com", Port: 443},
	{Nonce: impl.MaxTime + 1, Scheme: "https", Host: "a.com", Port: 443},
	{Scheme: "http"},
	{Host: "a.com"},
	{Port: 80},
	{Host: "a.com", Port: 80},
	{Scheme: "http", Port: 80},
	{Scheme: "http", Host: "a.com"},
	{Scheme: "ftp", Host: "a.com", Port: 80},
	{Scheme: "HTTP", Host: "a.com", Port: 80},
	{Scheme: "http", Host: "a..com", Port: 80},
	{Scheme: "http", Host: "A.com", Port: 80},
	{Scheme: "http", Host: tooLong, Port: 80},
	{Scheme: tooLong, Host: "a.com", Port: 80},
	{Scheme: "http", Host: "a.com", Port: -1},
	{Scheme: "http", Host: "a.com", Port: 65536},
}

func TestOriginsThatAreRight(t *testing.T) {
	for _, c := range origins {
		same(t, c.text, impl.OriginRight(c.origin), true)
	}
}

func TestOriginsThatAreWrong(t *testing.T) {
	for _, o := range wrongOrigins {
		same(t, shown(o), impl.OriginRight(o), false)
		same(t, "text of "+shown(o), impl.OriginText(o), "")
	}
}

func TestOriginTexts(t *testing.T) {
	for _, c := range origins {
		same(t, "text", impl.OriginText(c.origin), c.text)
	}
	for nonce := int64(1); nonce <= impl.MaxTime; nonce += 997 {
		same(t, "text", impl.OriginText(impl.Origin{Nonce: nonce}), "null#"+strconv.FormatInt(nonce, 10))
	}
}

func TestOriginsOfUrls(t *testing.T) {
	for _, c := range urls {
		want := impl.Origin{Scheme: c.url.Scheme, Host: c.url.Host, Port: c.url.Port}
		got := impl.OriginOf(c.url)
		same(t, c.text, got, want)
		same(t, c.text, impl.OriginRight(got), true)
		same(t, c.text, impl.OriginText(got)+c.url.Path, c.text)
	}
	for _, u := range wrongUrls {
		same(t, shown(u), impl.OriginOf(u), impl.Origin{})
	}
}

func TestOriginsOfAnotherPath(t *testing.T) {
	for _, c := range urls {
		for _, path := range []string{"/", "/other", longestPath} {
			other := c.url
			other.Path = path
			same(t, c.text, impl.OriginSame(impl.OriginOf(c.url), impl.OriginOf(other)), true)
		}
		other := c.url
		other.Path = "no path"
		same(t, c.text, impl.OriginSame(impl.OriginOf(c.url), impl.OriginOf(other)), false)
	}
}

func TestOriginsAreTheSameJustIfTheirTextsAre(t *testing.T) {
	for i, a := range origins {
		for k, b := range origins {
			same(t, a.text+" and "+b.text, impl.OriginSame(a.origin, b.origin), i == k)
			same(t, "texts of "+a.text+" and "+b.text, impl.OriginText(a.origin) == impl.OriginText(b.origin), i == k)
		}
	}
}

func TestOriginsThatAreWrongAreLikeNone(t *testing.T) {
	for _, a := range wrongOrigins {
		for _, b := range origins {
			same(t, shown(a)+" ahead", impl.OriginSame(a, b.origin), false)
			same(t, shown(a)+" behind", impl.OriginSame(b.origin, a), false)
		}
		for _, b := range wrongOrigins {
			same(t, shown(a)+" and "+shown(b), impl.OriginSame(a, b), false)
		}
	}
}

func TestOriginsAreNewMemory(t *testing.T) {
	fields := []byte("httpa.com/p")
	u := impl.Url{Scheme: unsafe.String(&fields[0], 4), Host: unsafe.String(&fields[4], 5), Port: 80, Path: unsafe.String(&fields[9], 2)}
	o := impl.OriginOf(u)
	text := impl.OriginText(impl.Origin{Scheme: u.Scheme, Host: u.Host, Port: 80})
	same(t, "what was handed in", string(fields), "httpa.com/p")
	clear(fields)
	same(t, "the origin behind the call", o, impl.Origin{Scheme: "http", Host: "a.com", Port: 80})
	same(t, "its text behind the call", text, "http://a.com")
}
