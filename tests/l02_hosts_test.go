package tests

import (
	"slices"
	"strings"
	"testing"
	"unsafe"

	"loop.example/g00551/impl"
)

const hostBytes = "abcdefghijklmnopqrstuvwxyz0123456789-"

// hosts: right ones, with what LabelsOf tells of them.
var hosts = []struct {
	host   string
	labels []string
}{
	{"a", []string{"a"}},
	{"0", []string{"0"}},
	{"com", []string{"com"}},
	{"a.com", []string{"a", "com"}},
	{"x.a.com", []string{"x", "a", "com"}},
	{"a.a", []string{"a", "a"}},
	{"1.2.3.4.5.6", []string{"1", "2", "3", "4", "5", "6"}},
	{"f.e.d.c.b.a", []string{"f", "e", "d", "c", "b", "a"}},
	{"a-b", []string{"a-b"}},
	{"a--b.c-d", []string{"a--b", "c-d"}},
	{"abcdefghijkl", []string{"abcdefghijkl"}},
	{"mnopqrstuvwx.yz0123456789.a----------b", []string{"mnopqrstuvwx", "yz0123456789", "a----------b"}},
	{longestHost, []string{"abcdefghijkl", "abcdefghijkl", "abcdefghijkl", "abcdefghijkl", "abcdefghijkl", "zbcdefghijky"}},
}

const longestHost = "abcdefghijkl.abcdefghijkl.abcdefghijkl.abcdefghijkl.abcdefghijkl.zbcdefghijky"

var wrongHosts = []string{
	"", ".", "..", ".a", "a.", "a..b", ".a.com", "a.com.", "a.b..c.d",
	"1.2.3.4.5.6.7", "a.b.c.d.e.f.", ".a.b.c.d.e.f",
	"abcdefghijklm", "a.abcdefghijklm", "abcdefghijklm.a", "a.abcdefghijklm.b",
	"-", "-a", "a-", "-a.b", "a-.b", "a.-b", "a.b-", "a.-.b", "--",
	"A", "aB.com", "a.Com", "a_b", "a b", " a", "a ", "a:80", "a/", "a\n", "a\x00", "*.a", "!a.b",
	"é", "aé.com", "a\xff", "\x80", "a。b", "ａ",
	tooLong, strings.Repeat("a.", impl.MaxBytes/2) + "a", strings.Repeat(".", impl.MaxBytes+1),
}

func TestHostsThatAreRight(t *testing.T) {
	for _, c := range hosts {
		same(t, c.host, impl.HostRight(c.host), true)
	}
}

func TestHostsThatAreWrong(t *testing.T) {
	for _, host := range wrongHosts {
		same(t, shown(host), impl.HostRight(host), false)
	}
}

func TestHostsByByte(t *testing.T) {
	for i := range 256 {
		b := string([]byte{byte(i)})
		within := strings.Contains(hostBytes, b)
		edge := within && b != "-"
		same(t, "alone: "+b, impl.HostRight(b), edge)
		same(t, "first: "+b, impl.HostRight(b+"bc.de"), edge)
		same(t, "middle: "+b, impl.HostRight("ab.c"+b+"c.de"), within || b == ".")
		same(t, "last: "+b, impl.HostRight("ab.cd"+b), edge)
		same(t, "twelfth: "+b, impl.HostRight("abcdefghijk"+b+".de"), edge)
	}
}

func TestHostsByLength(t *testing.T) {
	for size := range 16 {
		label := strings.Repeat("a", size)
		right := size >= 1 && size <= 12
		same(t, "a label alone", impl.HostRight(label), right)
		same(t, "the first label", impl.HostRight(label+".com"), right)
		same(t, "the last label", impl.HostRight("a.com."+label), right)
	}
	for count := 1; count < 20; count++ {
		host := strings.Repeat("a.", count-1) + "a"
		same(t, "so many labels", impl.HostRight(host), count <= 6)
	}
}

func TestLabels(t *testing.T) {
	for _, c := range hosts {
		if got := impl.LabelsOf(c.host); !slices.Equal(got, c.labels) {
			t.Errorf("%s: got %q, want %q", c.host, got, c.labels)
		}
	}
	for _, host := range wrongHosts {
		same(t, "labels of "+shown(host), len(impl.LabelsOf(host)), 0)
	}
}

func TestLabelsAreNewMemory(t *testing.T) {
	staysAsItIs(t, "LabelsOf", "x.abc.com", func(s string) string { return strings.Join(impl.LabelsOf(s), "|") })
	b := []byte("x.abc.com")
	got := impl.LabelsOf(unsafe.String(&b[0], len(b)))
	clear(b)
	if want := []string{"x", "abc", "com"}; !slices.Equal(got, want) {
		t.Errorf("labels behind the call: got %q, want %q", got, want)
	}
}
