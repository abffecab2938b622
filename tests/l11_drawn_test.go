package tests

import (
	"fmt"
	"math/rand"
	"regexp"
	"slices"
	"strconv"
	"strings"
	"testing"

	"loop.example/g00551/impl"
)

// Desks that are drawn, held against a plain reading of the document.

// lineForm: the table's lines, as one pattern.
var lineForm = regexp.MustCompile(strings.NewReplacer("N", "(?:0|[1-9][0-9]{0,8})", "W", "[^ \n]+").Replace(
	`^(?s:(open|box|go|look|fetch) N W|(pass|touch|key) N|ask N (yes|no)|(keep|set|clear) N W W)$`))

// deskByForm: what a text tells, by the readings of the calls in chapter 11.
func deskByForm(text string) impl.DeskOut {
	if len(text) > 8000 {
		return impl.DeskOut{Code: impl.ErrSize}
	}
	lines := strings.SplitAfter(text, "\n")
	if last := len(lines) - 1; lines[last] == "" {
		lines = lines[:last]
	}
	for at, line := range lines {
		if at == 40 || !strings.HasSuffix(line, "\n") || !lineForm.MatchString(line[:len(line)-1]) {
			return impl.DeskOut{Line: int64(at), Code: impl.ErrSyntax}
		}
	}
	w := impl.World{Rules: []string{"!city.uk", "*.uk", "com"}, Sets: setsOf("a.com:b.com", "c.com:city.uk")}
	told := ""
	for _, line := range lines {
		var words string
		words, w = lineByForm(strings.Split(line[:len(line)-1], " "), w)
		told += words + "\n"
	}
	return impl.DeskOut{Text: told}
}

// lineByForm: what a line tells, and the world behind it.
func lineByForm(words []string, w impl.World) (string, impl.World) {
	n, _ := strconv.ParseInt(words[1], 10, 64)
	words = append(words, "", "")
	a := worldArgs{w: w, id: n, minutes: n, url: words[2], name: words[2], value: words[3]}
	dash := func(text string) string {
		if text == "" {
			return "-"
		}
		return text
	}
	var out impl.WorldOut
	told := "ok"
	switch words[0] {
	case "open", "box":
		a.sandbox = words[0] == "box"
		out = openByForm(a)
		told = fmt.Sprint("frame ", out.Id)
	case "go":
		out = goByForm(a)
	case "pass":
		out = passByForm(a)
	case "touch":
		out = touchByForm(a)
	case "ask":
		a.yes = words[2] == "yes"
		out = askForByForm(a)
	case "keep":
		out = keepByForm(a)
	case "look":
		out = lookByForm(a)
		told = dash(out.Text)
	case "fetch":
		out = fetchByForm(a)
		told = fmt.Sprint(out.Says, " ", dash(strings.ReplaceAll(out.Text, "; ", ",")))
	case "set":
		a.set = strings.ReplaceAll(words[3], ";", "; ")
		out = answerByForm(a)
	case "clear":
		a.clear = map[string]string{"1": `"cache"`, "2": `"cookies"`, "3": `"cache", "cookies"`, "4": `"storage"`, "5": `"cache", "storage"`, "6": `"cookies", "storage"`, "7": `"*"`}[words[3]]
		out = answerByForm(a)
	case "key":
		return dash(keyByForm(w.Frames, w.Rules, n)), w
	}
	if isTold(out) {
		w = out.World
	}
	if out.Code != impl.OK {
		return fmt.Sprint("error ", out.Code), w
	}
	return told, w
}

var (
	deskUrls = []string{"https://a.com/", "https://b.com/", "https://c.com/", "https://a.com/p", "https://x.a.com/", "https://x.b.com/p", "http://a.com/", "http://b.com/", "https://city.uk/", "https://shop.co.uk/", "https://com/", "https://b.com:8443/"}
	deskSets = []string{"n=1", "m=2;Path=/p", "n=3;Domain=a.com", "n=4;Secure;SameSite=None", "n=5;Secure;SameSite=None", "n=6;Secure;Partitioned", "m=7;Domain=b.com;Max-Age=5;Secure;SameSite=None;Partitioned", "n=;Max-Age=0", "n=;Max-Age=0;Secure;Partitioned",
		"m=8;Secure;SameSite=Strict", "n=9;Max-Age=3", "n", ";", "n=1;Path=p", "n=1;SameSite=None", "n=1;Domain=com", "-"}
)

// someDeskLine draws one that is right, in a desk of at most so many frames.
func someDeskLine(r *rand.Rand, frames int) string {
	id := fmt.Sprint(1 + r.Intn(frames))
	if r.Intn(12) == 0 {
		id = oneOf(r, []string{"0", "11", "999999999", id})
	}
	url := oneOf(r, deskUrls)
	if r.Intn(2) == 0 {
		url = oneOf(r, deskUrls[:3])
	}
	if r.Intn(15) == 0 {
		url = oneOf(r, []string{"a.com", "-", "https://a.com", "https://A.com/", "https://a.com:443/"})
	}
	switch word := oneOf(r, []string{"open", "open", "box", "go", "pass", "touch", "touch", "ask", "ask", "keep", "look", "look", "fetch", "fetch", "fetch", "set", "set", "set", "clear", "key"}); word {
	case "open", "box":
		if word == "open" && r.Intn(3) == 0 {
			id = "0"
		}
		return word + " " + id + " " + url
	case "go", "fetch":
		return word + " " + id + " " + url
	case "pass":
		return "pass " + oneOf(r, []string{"0", "1", "2", "3", "5", "6", "20", "30", "1000", "1001"})
	case "ask":
		return "ask " + id + " " + oneOf(r, []string{"yes", "yes", "no"})
	case "keep":
		return "keep " + id + " " + oneOf(r, []string{"m", "n", "n", "N"}) + " " + oneOf(r, []string{"v", "w", "-", "a;b", strings.Repeat("x", 30), strings.Repeat("y", 40), strings.Repeat("z", 41)})
	case "look":
		return "look " + id + " " + oneOf(r, []string{"m", "n", "n", "n", "-"})
	case "set":
		return "set " + id + " " + url + " " + oneOf(r, deskSets)
	case "clear":
		return "clear " + id + " " + url + " " + oneOf(r, []string{"0", "1", "2", "2", "3", "4", "4", "5", "6", "7", "7", "8", "22", "x"})
	default:
		return word + " " + id
	}
}

// someDesk draws the lines of a desk, as many as may be or fewer.
func someDesk(r *rand.Rand) []string {
	lines := slices.Clone(deskHouse[:r.Intn(len(deskHouse)+1)])
	if r.Intn(20) == 0 {
		lines = nil
	}
	for len(lines) < impl.MaxDesk && r.Intn(60) > 0 {
		line := someDeskLine(r, 9)
		if r.Intn(4) == 0 && len(lines) > 0 {
			// Those that lean on each other, side by side.
			id := fmt.Sprint(1 + r.Intn(8))
			line = oneOf(r, []string{"touch " + id + "\nask " + id + " yes", "keep " + id + " n v\nlook " + id + " n", "keep " + id + " n " + strings.Repeat("y", 40) + "\nkeep " + id + " m " + strings.Repeat("y", 30), "set " + id + " https://b.com/ n=6;Secure;Partitioned\nfetch " + id + " https://b.com/", "touch 2\nask 2 no\nset 2 https://b.com/ n=4;Secure;SameSite=None\nfetch 2 https://b.com/"})
		}
		lines = append(lines, strings.Split(line, "\n")...)
	}
	return lines[:min(len(lines), impl.MaxDesk)]
}

func TestDesksDrawn(t *testing.T) {
	r := rand.New(rand.NewSource(50))
	counts := map[string]int{}
	for range 1500 {
		lines := someDesk(r)
		text := deskText(lines...)
		want := deskByForm(text)
		same(t, text, want.Code, impl.OK)
		got := impl.DeskRun(text)
		same(t, text+": told", got.Text, want.Text)
		same(t, text, got, want)
		same(t, text+": fault", impl.DeskFault(text), impl.DeskOut{})
		told := strings.Split(want.Text, "\n")
		for i, line := range lines {
			word, _, _ := strings.Cut(line, " ")
			counts[word+" "+firstOf(told[i])]++
		}
		if t.Failed() {
			t.FailNow()
		}
	}
	for _, what := range []string{"open frame", "open error 3", "open error 6", "open error 9", "box frame", "box error 1", "box error 6", "box error 9", "go ok", "go error 3", "go error 6", "pass ok", "pass error 8", "touch ok", "touch error 6",
		"ask ok", "ask error 6", "ask error 10", "ask error 11", "keep ok", "keep error 1", "keep error 6", "keep error 9", "look ", "look error 1", "look error 6", "fetch 0", "fetch 1", "fetch 2", "fetch 3", "fetch error 3", "fetch error 6",
		"set ok", "set error 3", "set error 6", "set error 11", "clear ok", "clear error 3", "clear error 6", "key ", "key -"} {
		if counts[what] < 15 {
			t.Errorf("%s: %d times: this tells little", what, counts[what])
		}
	}
}

// firstOf: what kind of words a line told.
func firstOf(told string) string {
	word, rest, more := strings.Cut(told, " ")
	switch {
	case word == "error":
		return told
	case word == "frame" || word == "ok" || word == "-" || more && rest != "":
		return word
	}
	return ""
}

// A right text with one byte, or one line, turned, put in or taken out.
func TestDesksTurned(t *testing.T) {
	r := rand.New(rand.NewSource(51))
	right, wrong := 0, 0
	for range 2500 {
		text := deskText(someDesk(r)...)
		at := r.Intn(len(text) + 1)
		b := oneOf(r, []string{" ", "\n", "0", "1", "9", "a", "o", ";", "-", "\x00", "\xff", "pass 1\n", "x", " \n", "\n\n"})
		end := at
		if r.Intn(3) > 0 {
			end = min(at+1, len(text))
		}
		if r.Intn(3) == 0 {
			b = ""
		}
		text = text[:at] + b + text[end:]
		want := deskByForm(text)
		same(t, text, impl.DeskRun(text), want)
		if want.Code == impl.OK {
			right++
		} else {
			wrong++
		}
		want.Text = ""
		same(t, text+": fault", impl.DeskFault(text), want)
		if t.Failed() {
			t.FailNow()
		}
	}
	if right < 500 || wrong < 700 {
		t.Errorf("%d right, %d wrong: this tells little", right, wrong)
	}
}
