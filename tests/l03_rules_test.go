package tests

import (
	"fmt"
	"slices"
	"strings"
	"testing"
	"unsafe"

	"loop.example/g00551/impl"
)

var rightRules = []string{
	"a", "0", "com", "co.uk", "a-b.c-d", "1.2.3.4.5.6", longestHost,
	"*.a", "*.uk", "*.co.uk", "*.1.2.3.4.5.6", "*." + longestHost,
	"!a.b", "!city.uk", "!a.b.c", "!1.2.3.4.5.6", "!" + longestHost,
}

var wrongRules = []string{
	"", "*", "!", "*.", "!.", "**", "!!", "*!", "!*", ".", "*..", "!..",
	"!a", "!uk", "!" + "abcdefghijkl",
	"*.*.a", "*.*", "!*.a", "!*", "*.!a.b", "!!a.b", "! a.b", "* .a",
	"*a", "*a.b", "**.a", "a.*", "a.*.b", "a.*.", "a!b", "a.!b", "a.b!", "a*",
	"*..a", "*.a.", "!.a", "!.a.b", "!a.", "!a.b.", "!a..b", ".a", "a.",
	"1.2.3.4.5.6.7", "*.1.2.3.4.5.6.7", "!1.2.3.4.5.6.7",
	"abcdefghijklm", "*.abcdefghijklm", "!a.abcdefghijklm", "!abcdefghijklm.a",
	"Com", "*.Uk", "!City.uk", " a", "a ", "*.a ", "!a.b ", "a\n", "\na", "a\r", "a b", "a_b", "//a", "#a",
	"-a", "*.-a", "!a-.b", "é", "*.é", "!a.é", "a\x00", "\xff",
	tooLong, "*." + tooLong, "!a." + tooLong, strings.Repeat("*.", impl.MaxBytes) + "a",
}

// manyRules: so many right ones, rising.
func manyRules(count int) []string {
	var l []string
	for i := range count {
		l = append(l, fmt.Sprintf("r%03d", i))
	}
	return l
}

func sameList(t *testing.T, what string, got []string, want []string) {
	t.Helper()
	if !slices.Equal(got, want) {
		t.Errorf("%s: got %q, want %q", what, got, want)
	}
}

func TestRulesOne(t *testing.T) {
	for _, rule := range rightRules {
		same(t, rule, impl.RuleRight(rule), true)
	}
	for _, rule := range wrongRules {
		same(t, shown(rule), impl.RuleRight(rule), false)
	}
	for _, c := range hosts {
		same(t, c.host, impl.RuleRight(c.host), true)
		same(t, "any of "+c.host, impl.RuleRight("*."+c.host), true)
		same(t, "not "+c.host, impl.RuleRight("!"+c.host), len(c.labels) >= 2)
	}
	for _, host := range wrongHosts {
		same(t, "any of "+shown(host), impl.RuleRight("*."+host), false)
		same(t, "not "+shown(host), impl.RuleRight("!"+host), false)
	}
}

func TestRulesOfOneByteAhead(t *testing.T) {
	for i := range 256 {
		b := string([]byte{byte(i)})
		inHost := strings.Contains(hostBytes, b) && b != "-"
		same(t, "ahead: "+b, impl.RuleRight(b+"a.b"), inHost || b == "!")
		same(t, "with a dot: "+b, impl.RuleRight(b+".a.b"), inHost || b == "*")
	}
}

func TestRulesRight(t *testing.T) {
	sorted := slices.Sorted(slices.Values(rightRules))
	cases := []struct {
		what string
		l    []string
		want bool
	}{
		{"none", nil, true},
		{"empty", []string{}, true},
		{"one", []string{"com"}, true},
		{"all kinds", []string{"!city.uk", "*.uk", "com"}, true},
		{"all right ones", sorted, true},
		{"one begins another", []string{"a", "a-b", "a.b", "a0", "ab"}, true},
		{"one label and more", []string{"!a.b", "*.b", "a.b", "b"}, true},
		{"the empty text alone", []string{""}, false},
		{"one that is no rule, alone", []string{"!uk"}, false},
		{"the first is no rule", []string{"!uk", "*.uk", "com"}, false},
		{"the middle is no rule", []string{"!city.uk", "*.*.uk", "com"}, false},
		{"the last is no rule", []string{"!city.uk", "*.uk", "com."}, false},
		{"two the same", []string{"a", "a"}, false},
		{"two the same behind others", []string{"!a.b", "*.b", "c", "c"}, false},
		{"two the same ahead of others", []string{"*.b", "*.b", "c"}, false},
		{"two that fall", []string{"b", "a"}, false},
		{"the longer one ahead", []string{"ab", "a"}, false},
		{"the last falls", []string{"a", "c", "b"}, false},
		{"the first is above", []string{"com", "!city.uk", "*.uk"}, false},
		{"star ahead of not", []string{"*.uk", "!city.uk"}, false},
		{"apart the same", []string{"a", "b", "a"}, false},
	}
	for _, c := range cases {
		same(t, c.what, impl.RulesRight(c.l), c.want)
	}
	for _, rule := range wrongRules {
		same(t, "with "+shown(rule), impl.RulesRight(slices.Sorted(slices.Values([]string{"!a.b", rule, "zzz"}))), false)
	}
}

func TestRulesByCount(t *testing.T) {
	for count := range impl.MaxRules + 5 {
		same(t, fmt.Sprint(count, " rules"), impl.RulesRight(manyRules(count)), count <= impl.MaxRules)
	}
	for _, count := range []int{impl.MaxList, impl.MaxList + 1} {
		same(t, fmt.Sprint(count, " rules"), impl.RulesRight(manyRules(count)), false)
	}
}

func TestRulesReadFromText(t *testing.T) {
	cases := []struct {
		what string
		text string
		want []string
	}{
		{"empty", "", nil},
		{"a line feed alone", "\n", nil},
		{"empty lines alone", "\n\n\n", nil},
		{"no rule at all", "A\n*\n!\n!uk\n*.*.a", nil},
		{"one without a line feed", "com", []string{"com"}},
		{"one with a line feed", "com\n", []string{"com"}},
		{"a line feed ahead", "\ncom", []string{"com"}},
		{"all kinds, falling", "com\n*.uk\n!city.uk\n", []string{"!city.uk", "*.uk", "com"}},
		{"the same without the last line feed", "com\n*.uk\n!city.uk", []string{"!city.uk", "*.uk", "com"}},
		{"rising already", "!city.uk\n*.uk\ncom\n", []string{"!city.uk", "*.uk", "com"}},
		{"empty lines between", "b\n\n\na\n\n", []string{"a", "b"}},
		{"lines that are no rules", "b\nB\n b\nb \n# b\n//b\n!b\n*.\n*.b\nb.\n", []string{"*.b", "b"}},
		{"twice side by side", "a\na\n", []string{"a"}},
		{"twice apart", "a\nb\na\nb\na", []string{"a", "b"}},
		{"another line's end", "a\r\nb\r\nc", []string{"c"}},
		{"blanks and tabs are no ends", "a b\tc\nd", []string{"d"}},
		{"one begins another", "ab\na.b\na-b\na\na0", []string{"a", "a-b", "a.b", "a0", "ab"}},
		{"marks make others", "a.b\n!a.b\n*.a.b\n", []string{"!a.b", "*.a.b", "a.b"}},
		{"the longest", "!" + longestHost + "\n*." + longestHost + "\n" + longestHost, []string{"!" + longestHost, "*." + longestHost, longestHost}},
		{"bytes of all kinds", "\x00\n\xff\né\nok", []string{"ok"}},
	}
	for _, c := range cases {
		sameList(t, c.what, impl.RulesRead(c.text), c.want)
	}
}

func TestRulesReadMoreThanMaxRules(t *testing.T) {
	for count := range impl.MaxRules + 10 {
		l := manyRules(count)
		want := l[:min(count, impl.MaxRules)]
		sameList(t, "rising", impl.RulesRead(strings.Join(l, "\n")), want)
		falling := slices.Clone(l)
		slices.Reverse(falling)
		sameList(t, "falling", impl.RulesRead(strings.Join(falling, "\n")+"\n"), want)
		sameList(t, "each twice", impl.RulesRead(strings.Join(append(falling, l...), "\n")), want)
		wrong := strings.Repeat("A\n", 2*impl.MaxRules)
		sameList(t, "with lines that are none", impl.RulesRead(wrong+strings.Join(falling, "\n\nB\n")), want)
	}
	// The least one comes last, and drives out the greatest one.
	l := append(manyRules(impl.MaxRules), "!a.b")
	sameList(t, "the least one last", impl.RulesRead(strings.Join(l, "\n")), append([]string{"!a.b"}, l[:impl.MaxRules-1]...))
}

func TestRulesReadBySize(t *testing.T) {
	for size := impl.MaxBytes - 2; size < impl.MaxBytes+3; size++ {
		text := "com\n" + strings.Repeat("\n", size-len("com\nnet")) + "net"
		want := []string{"com", "net"}
		if size > impl.MaxBytes {
			want = nil
		}
		sameList(t, fmt.Sprint(size, " bytes"), impl.RulesRead(text), want)
	}
	many := strings.Repeat("a\n", impl.MaxBytes/2)
	sameList(t, "more lines than a list may have", impl.RulesRead(many), []string{"a"})
}

func TestRulesReadAreRight(t *testing.T) {
	texts := []string{"", "x\n\nA\ncom\nx\n", strings.Join(rightRules, "\n"), strings.Join(wrongRules[:40], "\n"),
		strings.Join(manyRules(50), "\n"), "b\na\n*.a\n!a.b"}
	for _, text := range texts {
		l := impl.RulesRead(text)
		same(t, shown(text), impl.RulesRight(l), true)
		sameList(t, "read again", impl.RulesRead(strings.Join(l, "\n")), l)
	}
}

func TestRulesReadAreNewMemory(t *testing.T) {
	const text = "com\n*.uk\n!city.uk\nnet"
	staysAsItIs(t, "RulesRead", text, func(s string) string { return strings.Join(impl.RulesRead(s), "|") })
	b := []byte(text)
	got := impl.RulesRead(unsafe.String(&b[0], len(b)))
	clear(b)
	sameList(t, "behind the call", got, []string{"!city.uk", "*.uk", "com", "net"})
	got[0] = "other"
	sameList(t, "the next call", impl.RulesRead(text), []string{"!city.uk", "*.uk", "com", "net"})
}
