package tests

import (
	"fmt"
	"slices"
	"strings"
	"testing"

	"loop.example/g00551/impl"
)

// Which texts are those of a desk, and which Line is told of one that is none.

// deskText: each line with its line feed.
func deskText(lines ...string) string {
	text := ""
	for _, line := range lines {
		text += line + "\n"
	}
	return text
}

func sameDesk(t *testing.T, text string, want impl.DeskOut) {
	t.Helper()
	same(t, shown(text)+": run", impl.DeskRun(text), want)
	want.Text = ""
	same(t, shown(text)+": fault", impl.DeskFault(text), want)
}

// isDesk: that text is one, and tells that.
func isDesk(t *testing.T, text string, told string) {
	t.Helper()
	sameDesk(t, text, impl.DeskOut{Text: told})
}

// isNoDesk: the first line that is wrong is that one.
func isNoDesk(t *testing.T, text string, line int64) {
	t.Helper()
	sameDesk(t, text, impl.DeskOut{Line: line, Code: impl.ErrSyntax})
}

// standsThere: is a line one of a desk, by itself and behind another one?
func standsThere(t *testing.T, line string, right bool) {
	t.Helper()
	for _, ahead := range []string{"", "pass 1\n"} {
		text := ahead + line + "\n"
		if !right {
			isNoDesk(t, text, int64(len(ahead)/len("pass 1\n")))
			continue
		}
		same(t, shown(text)+": fault", impl.DeskFault(text), impl.DeskOut{})
		out := impl.DeskRun(text)
		same(t, shown(text)+": run", impl.DeskOut{Line: out.Line, Code: out.Code}, impl.DeskOut{})
		same(t, shown(text)+": lines", strings.Count(out.Text, "\n"), strings.Count(text, "\n"))
	}
}

func TestDeskTextsByLines(t *testing.T) {
	isDesk(t, "", "")
	isDesk(t, "pass 1\n", "ok\n")
	isDesk(t, "key 1\npass 1\n", "-\nok\n")
	for count := range impl.MaxDesk + 4 {
		text := strings.Repeat("pass 1\n", count)
		told := impl.DeskOut{Text: strings.Repeat("ok\n", count)}
		if count > impl.MaxDesk {
			told = impl.DeskOut{Line: impl.MaxDesk, Code: impl.ErrSyntax}
		}
		sameDesk(t, text, told)
		// What stands behind the last line feed is a line that lacks its own.
		for _, last := range []string{"pass 1", "x", " ", "p", "pass ", "\x00"} {
			isNoDesk(t, text+last, int64(min(count, impl.MaxDesk)))
		}
		for _, wrong := range []string{"", "x", " pass 1", "pass 1 ", "pass  1", "pass\t1", "pass 1\r", " "} {
			isNoDesk(t, text+wrong+"\n", int64(min(count, impl.MaxDesk)))
			isNoDesk(t, text+wrong+"\npass 1\n", int64(min(count, impl.MaxDesk)))
		}
	}
}

// A line that is empty, begins or ends with a blank, or has two blanks between.
func TestDeskLinesByBlanks(t *testing.T) {
	for _, line := range deskLines {
		standsThere(t, line, true)
		standsThere(t, " "+line, false)
		standsThere(t, line+" ", false)
		for at := range line {
			if line[at] == ' ' {
				standsThere(t, line[:at]+" "+line[at:], false)
				standsThere(t, line[:at]+line[at+1:], false)
				standsThere(t, line[:at]+"\t"+line[at+1:], false)
				standsThere(t, line[:at]+"\u00a0"+line[at+1:], false)
				standsThere(t, line[:at]+"\n"+line[at+1:], false)
			}
		}
	}
	for _, line := range []string{"", " ", "  ", "\t", "\r", "\v", "\x00"} {
		standsThere(t, line, false)
	}
}

// Of more lines that are none the first one is told, also if one is too many.
func TestDeskLinesThatAreNoneByPlace(t *testing.T) {
	const most = impl.MaxDesk + 3
	for first := range most {
		for _, second := range []int{first, first + 1, most - 1} {
			lines := slices.Repeat([]string{"pass 1"}, most)
			lines[first] = "pass"
			lines[min(second, most-1)] = "pass"
			isNoDesk(t, deskText(lines...), int64(min(first, impl.MaxDesk)))
		}
		lines := slices.Repeat([]string{"pass 1"}, impl.MaxDesk)
		if first < impl.MaxDesk {
			lines[first] = ""
			isNoDesk(t, deskText(lines...), int64(first))
			isNoDesk(t, deskText(lines...)+"x", int64(first))
		}
	}
	isNoDesk(t, "pass 1\npass 1", 1)
	isNoDesk(t, "pass 1\nx\npass 1", 1)
	isNoDesk(t, "pass 1", 0)
	isNoDesk(t, "\n", 0)
	isNoDesk(t, "\n\n", 0)
	isNoDesk(t, "pass 1\n\n", 1)
	isNoDesk(t, "pass 1\n\npass 1\n", 1)
	isNoDesk(t, "\npass 1\n", 0)
}

// filledTo: a line of a word that makes the text behind it of that size.
func filledTo(ahead string, line string, size int) string {
	text := ahead + line
	return text + strings.Repeat("u", size-len(text)-1) + "\n"
}

func TestDeskTextsBySize(t *testing.T) {
	for _, ahead := range []string{"", "pass 1\npass 1\n", strings.Repeat("pass 1\n", impl.MaxDesk-1)} {
		told := strings.Repeat("ok\n", strings.Count(ahead, "\n"))
		for _, less := range []int{0, 1, 2} {
			isDesk(t, filledTo(ahead, "open 0 ", impl.MaxBytes-less), told+"error 3\n")
		}
		for _, more := range []int{1, 2, impl.MaxBytes} {
			sameDesk(t, filledTo(ahead, "open 0 ", impl.MaxBytes+more), impl.DeskOut{Code: impl.ErrSize})
		}
	}
	// Ahead of all else, also of lines that are none.
	for _, line := range []string{"\n", "pass 1\n", "x", "\x00", " "} {
		text := strings.Repeat(line, impl.MaxBytes+1)
		sameDesk(t, text, impl.DeskOut{Code: impl.ErrSize})
		sameDesk(t, text[:impl.MaxBytes+1], impl.DeskOut{Code: impl.ErrSize})
		wrong := int64(0)
		if line == "pass 1\n" {
			wrong = impl.MaxDesk
		}
		isNoDesk(t, text[:impl.MaxBytes], wrong)
	}
	sameDesk(t, tooLong, impl.DeskOut{Code: impl.ErrSize})
	sameDesk(t, "pass 1\n"+tooLong, impl.DeskOut{Code: impl.ErrSize})
}

// deskLines: one of each form.
var deskLines = []string{
	"open 1 https://a.com/", "box 1 https://a.com/", "go 1 https://a.com/", "pass 1", "touch 1", "ask 1 yes", "ask 1 no", "keep 1 n v", "look 1 n",
	"fetch 1 https://a.com/", "set 1 https://a.com/ n=1", "clear 1 https://a.com/ 7", "key 1",
}

func TestDeskLinesByTheirWords(t *testing.T) {
	for _, line := range deskLines {
		words := strings.Split(line, " ")
		for count := range len(words) {
			standsThere(t, strings.Join(words[:count], " "), false)
		}
		for _, more := range []string{"1", "x", "yes", "n", "v", "https://a.com/", words[len(words)-1], words[0]} {
			standsThere(t, line+" "+more, false)
		}
		for at := range words {
			// Each word left out, taken twice, or empty.
			standsThere(t, strings.Join(slices.Concat(words[:at], words[at+1:]), " "), false)
			standsThere(t, strings.Join(slices.Concat(words[:at+1], words[at:]), " "), false)
			standsThere(t, strings.Join(slices.Concat(words[:at], []string{""}, words[at+1:]), " "), false)
		}
	}
}

// Each of the words with which a line may begin, with each count of words.
func TestDeskLinesByCount(t *testing.T) {
	counts := map[string]int{"ask": 3, "box": 3, "clear": 4, "fetch": 3, "go": 3, "keep": 4, "key": 2, "look": 3, "open": 3, "pass": 2, "set": 4, "touch": 2}
	for word, count := range counts {
		for others := range 6 {
			line := word
			for at := range others {
				if at == 0 {
					line += " 1"
				} else {
					line += " yes"
				}
			}
			standsThere(t, line, others+1 == count)
		}
	}
}

func TestDeskLinesByFirstWord(t *testing.T) {
	wrong := []string{"", "x", "opens", "ope", "Open", "OPEN", "closed", "shut", "world", "answer", "wait", "ok", "error", "frame", "N", "URL", "1", "-", "#", "open\x00", "\ufeffopen", "\u043epen"}
	for _, word := range impl.DeskWords() {
		wrong = append(wrong, strings.ToUpper(word), strings.ToUpper(word[:1])+word[1:], word+word, word+"\t", "\t"+word, word+"s", word[1:], word[:len(word)-1])
	}
	for _, line := range deskLines {
		_, rest, _ := strings.Cut(line, " ")
		for _, word := range wrong {
			standsThere(t, word+" "+rest, false)
		}
	}
	// One byte of the word turned, each way.
	for _, line := range deskLines {
		word, rest, _ := strings.Cut(line, " ")
		for at := range len(word) {
			for b := range 256 {
				if byte(b) != word[at] {
					standsThere(t, word[:at]+string([]byte{byte(b)})+word[at+1:]+" "+rest, false)
				}
			}
		}
	}
}

// withNumber: the line with another N.
func withNumber(line string, n string) string {
	words := strings.Split(line, " ")
	words[1] = n
	return strings.Join(words, " ")
}

func TestDeskNumbers(t *testing.T) {
	right := []string{"0", "1", "9", "10", "19", "90", "100", "101", "1000", "99999999", "100000000", "123456789", "999999998", "999999999"}
	wrong := []string{"", "00", "01", "09", "010", "000000000", "000000001", "0999999999", "1000000000", "9999999999", "1234567890", "4294967297", "9223372036854775808", "18446744073709551617", "99999999999999999999999",
		"+1", "-1", "+0", "-0", "-", "+", "--1", "1-", "1+", "1.", ".1", "1.0", "1,0", "1_0", "0x1", "0b1", "0o7", "1e1", "1a", "a1", "a", "N", "one", "1\t", "\t1", "1\r", "\x001", "1\x00", "٣", "１", "1\u00a0", "¹", "\xff", "1\xff"}
	for _, line := range deskLines {
		for _, n := range right {
			standsThere(t, withNumber(line, n), true)
		}
		for _, n := range wrong {
			standsThere(t, withNumber(line, n), false)
		}
		for _, many := range []int{1, 2, 8, 9, 10, 11, 18, 19, 20, 21, 100, 7000} {
			standsThere(t, withNumber(line, strings.Repeat("7", many)), many <= 9)
			standsThere(t, withNumber(line, "1"+strings.Repeat("0", many-1)), many <= 9)
			standsThere(t, withNumber(line, strings.Repeat("0", many)), many == 1)
		}
	}
}

func TestDeskNumbersByByte(t *testing.T) {
	for b := range 256 {
		if b == '\n' {
			// It makes two lines of one.
			continue
		}
		digit := b >= '0' && b <= '9'
		for _, line := range []string{"pass 1", "open 1 https://a.com/", "set 1 https://a.com/ n=1"} {
			one := string([]byte{byte(b)})
			standsThere(t, withNumber(line, one), digit)
			standsThere(t, withNumber(line, "1"+one), digit)
			standsThere(t, withNumber(line, "1"+one+"1"), digit)
			standsThere(t, withNumber(line, "12345678"+one), digit)
			standsThere(t, withNumber(line, one+"1"), digit && b != '0')
		}
	}
}

func TestDeskAsksByWord(t *testing.T) {
	for _, word := range []string{"yes", "no"} {
		standsThere(t, "ask 1 "+word, true)
	}
	for _, word := range []string{"", "Yes", "No", "YES", "NO", "y", "n", "ye", "yess", "noo", "o", "maybe", "true", "false", "0", "1", "yes\t", "yes\r", "\tno", "no\x00", "yesno", "yes no", "no yes", "-", "WORD", "yes|no", "yes,", "ok"} {
		standsThere(t, "ask 1 "+word, false)
	}
}

// Each other word may be any one, whatever it does then.
func TestDeskWordsByByte(t *testing.T) {
	forms := []string{"open 0 %", "box 0 %", "go 1 %", "look 1 %", "keep 1 % v", "keep 1 n %", "fetch 1 %", "set 1 % n=1", "set 1 https://a.com/ %", "clear 1 % 1", "clear 1 https://a.com/ %"}
	for _, form := range forms {
		for b := range 256 {
			one := string([]byte{byte(b)})
			for _, word := range []string{one, "w" + one, one + "w", "w" + one + "w"} {
				line := strings.Replace(form, "%", word, 1)
				if strings.ContainsAny(word, " \n") {
					same(t, shown(line), impl.DeskFault(line+"\n").Code, impl.ErrSyntax)
					same(t, shown(line), impl.DeskRun(line+"\n"), impl.DeskFault(line+"\n"))
					continue
				}
				standsThere(t, line, true)
			}
		}
		for _, word := range []string{"-", "--", "N", "URL", "%", "é", "\u00a0", "\u2028", "\xff\xfe", "\\n", "%0a", strings.Repeat("w", 7000)} {
			standsThere(t, strings.Replace(form, "%", word, 1), true)
		}
		standsThere(t, strings.Replace(form, "%", "", 1), false)
	}
}

// Digits of kinds are held by no line's form: whatever stands there is a word.
func TestDeskKindsAreWords(t *testing.T) {
	for _, word := range []string{"0", "1", "7", "8", "9", "10", "77", "07", "x", "*", `"*"`, "-1", "2.", "²"} {
		standsThere(t, "clear 1 https://a.com/ "+word, true)
	}
	for _, word := range []string{"", " 2", "2 ", "2 4", `"cookies", "storage"`} {
		standsThere(t, "clear 1 https://a.com/ "+word, false)
	}
}

// What is told beside a code is the Line alone, and of a right text neither.
func TestDeskFaultsTellNoText(t *testing.T) {
	opened := "open 0 https://a.com/\nkeep 1 n v\nlook 1 n\n"
	isDesk(t, opened, "frame 1\nok\nv\n")
	for _, wrong := range []string{"x\n", "\n", "pass 1", "pass 01\n", "ask 1 x\n"} {
		isNoDesk(t, opened+wrong, 3)
		isNoDesk(t, opened+wrong+opened, 3)
	}
	sameDesk(t, opened+tooLong, impl.DeskOut{Code: impl.ErrSize})
	// Codes that lines tell are no fault of the text.
	isDesk(t, "touch 1\nopen 0 x\npass 1001\n", fmt.Sprintf("error %d\nerror %d\nerror %d\n", impl.ErrNone, impl.ErrSyntax, impl.ErrRange))
}
