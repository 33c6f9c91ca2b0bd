package tests

import (
	"fmt"
	"math/rand/v2"
	"regexp"
	"slices"
	"strconv"
	"strings"
	"sync"
	"testing"
	"unsafe"

	"loop.example/g00568/impl"
)

// lineForm gives what matches whole lines of a form, in which N stands for a
// number and T for a text.
func lineForm(form string) *regexp.Regexp {
	form = strings.ReplaceAll(form, "N", `(0|[1-9][0-9]{0,8})`)
	form = strings.ReplaceAll(form, "T", `((?:[!-\[\]-~]|\\\\|\\n|\\x[0-9a-f]{2})*)`)
	return regexp.MustCompile(`(?s)^` + form + `$`)
}

var (
	patForm   = lineForm("pat (.*)")
	scanForm  = lineForm("scan T")
	wordForm  = lineForm("word T")
	nearForm  = lineForm("near N T")
	alignForm = lineForm("align T T")
	openForm  = lineForm("open N")
	feedForm  = lineForm("feed(?: T)?")
	drainForm = lineForm("drain N")
	closeForm = lineForm("close ?")
	resetForm = lineForm("reset N")
)

// A wantState is what the lines of a script have made so far.
type wantState struct {
	dict    []impl.Pattern
	words   []string
	session *impl.Session
}

func wantRecsText(ahead string, recs []impl.Rec) string {
	for _, x := range recs {
		ahead += fmt.Sprintf(" %d:%d:%d", x.Pattern, x.End, x.Dist)
	}
	return ahead
}

func wantCode(code int64) string {
	if code == impl.SnOk {
		return "ok"
	}
	return fmt.Sprintf("no %d", code)
}

// reads tells whether the line has the form, and gives its texts and numbers.
func reads(form *regexp.Regexp, line string) ([]string, bool) {
	m := form.FindStringSubmatch(line)
	if m == nil {
		return nil, false
	}
	return m[1:], true
}

func wantNumber(s string) int64 {
	n, err := strconv.ParseInt(s, 10, 64)
	if err != nil {
		panic(err)
	}
	return n
}

// say says what the document has the line say, by forms of whole lines.
func (w *wantState) say(line string) string {
	if m, ok := reads(patForm, line); ok {
		return w.pat(m[0])
	}
	if m, ok := reads(scanForm, line); ok && len(wantUnescaped(m[0])) <= 200 {
		return wantRecsText("found", wantRecs(w.dict, wantUnescaped(m[0])))
	}
	if m, ok := reads(wordForm, line); ok && len(wantUnescaped(m[0])) <= 20 && len(w.words) < 30 {
		w.words = append(w.words, wantUnescaped(m[0]))
		return "ok"
	}
	if m, ok := reads(nearForm, line); ok && wantNumber(m[0]) <= 20 && len(wantUnescaped(m[1])) <= 20 {
		said := "near"
		for _, word := range wantNear(w.words, wantUnescaped(m[1]), wantNumber(m[0])) {
			said += " " + wantEscaped(word)
		}
		return said
	}
	if m, ok := reads(alignForm, line); ok && len(wantUnescaped(m[0])) <= 200 && len(wantUnescaped(m[1])) <= 200 {
		a, b := wantUnescaped(m[0]), wantUnescaped(m[1])
		return fmt.Sprint(impl.Distance(a, b, false), " ", wantAlign(a, b, false))
	}
	return w.saySession(line)
}

func (w *wantState) pat(line string) string {
	d, wrong, col := wantRead(line + "\n")
	switch {
	case wrong != 0:
		return fmt.Sprint("no ", col)
	case len(d) == 0:
		return "no 1"
	case len(w.dict) == 8:
		return "no 0"
	}
	w.dict = append(slices.Clone(w.dict), d[0])
	return "ok"
}

func (w *wantState) saySession(line string) string {
	open, isOpen := reads(openForm, line)
	feed, isFeed := reads(feedForm, line)
	drain, isDrain := reads(drainForm, line)
	reset, isReset := reads(resetForm, line)
	isClose := closeForm.MatchString(line)
	switch s := w.session; {
	case isOpen:
		anew, code := wantOpen(w.dict, wantNumber(open[0]), 0)
		if code == impl.SnOk {
			w.session = &anew
		}
		return wantCode(code)
	case !isFeed && !isDrain && !isClose && !isReset:
		return "what"
	case s == nil:
		return "no 1"
	case isFeed:
		fed, taken, code := wantFeed(*s, wantUnescaped(feed[0]))
		w.session = &fed
		return fmt.Sprint("fed ", taken, " ", code)
	case isDrain:
		most := min(wantNumber(drain[0]), int64(len(s.Queue)))
		recs := s.Queue[:most]
		s.Queue = s.Queue[most:]
		return wantRecsText("drained", recs)
	case isClose && s.Closed:
		return "no 4"
	case isClose:
		s.Closed = true
		return "ok"
	default:
		anew, code := wantOpen(s.Dict, s.Room, wantNumber(reset[0]))
		if code == impl.SnOk {
			w.session = &anew
		}
		return wantCode(code)
	}
}

func linesOf(lines []string) string {
	return strings.Join(append(slices.Clone(lines), ""), "\n")
}

// blankLine tells whether the line says nothing.
func blankLine(line string) bool {
	return strings.ReplaceAll(line, " ", "") == ""
}

// wantSaid gives what lines say, each for itself; "" for those that say nothing.
func wantSaid(lines []string) []string {
	var w wantState
	said := make([]string, len(lines))
	for i, line := range lines {
		if !blankLine(line) {
			said[i] = w.say(line)
		}
	}
	return said
}

// wantText gives what a script says of whose lines each says so much.
func wantText(said []string) string {
	return linesOf(slices.DeleteFunc(slices.Clone(said), func(line string) bool { return line == "" }))
}

func checkScript(t *testing.T, text string, want string) {
	t.Helper()
	if got := impl.RunScript(text); got != want {
		t.Fatalf("RunScript(%q) = %q, want %q", text, got, want)
	}
}

func checkLines(t *testing.T, lines []string) {
	t.Helper()
	checkScript(t, linesOf(lines), wantText(wantSaid(lines)))
}

// A talk has lines, each with what it is to say; "" when it says nothing.
type talk [][2]string

// checkTalk runs the beginnings of a talk, line by line: what was said stays
// said.
func checkTalk(t *testing.T, l talk) {
	t.Helper()
	var lines, said []string
	for _, x := range l {
		lines, said = append(lines, x[0]), append(said, x[1])
		checkScript(t, linesOf(lines), wantText(said))
	}
	checkLines(t, lines)
}

// saidBehind gives what lines say behind others.
func saidBehind(before talk, lines []string, said string) talk {
	l := slices.Clone(before)
	for _, line := range lines {
		l = append(l, [2]string{line, said})
	}
	return l
}

// checkAll holds what each of many lines says behind others against one answer.
func checkAll(t *testing.T, before talk, lines []string, said string) {
	t.Helper()
	for chunk := range slices.Chunk(lines, 20) {
		checkTalk(t, saidBehind(before, chunk, said))
	}
}

// begun is a talk behind which there are patterns, words and a session.
func begun() talk {
	return talk{{"pat 1 i aB", "ok"}, {"pat 0 - b", "ok"}, {"word ab", "ok"}, {"word ", "ok"}, {"word abc", "ok"}, {"open 9", "ok"}, {"feed ab", "fed 2 0"}}
}

func TestRunScript(t *testing.T) {
	checkTalk(t, talk{
		{"scan abc", "found"}, {"near 20 abc", "near"}, {"feed a", "no 1"}, {"drain 1", "no 1"}, {"close", "no 1"}, {"reset 0", "no 1"},
		{"pat 1 i aB", "ok"}, {"scan xAbB", "found 0:2:1 0:3:0 0:4:1"}, {"pat 4 - \\xff", "ok"}, {"scan ", "found 1:0:1"}, {"scan \\xff", "found 1:0:1 1:1:0"},
		{"align kitten sitting", "3 x===x=+"}, {"align  ", "0 "}, {"align a ", "1 -"}, {"align  \\x0a", "1 +"}, {"align \\x41 A", "0 ="}, {"align A a", "1 x"},
		{"word \\\\", "ok"}, {"word \\x5c", "ok"}, {"word a\\x20b", "ok"}, {"word ", "ok"}, {"word Zz", "ok"}, {"near 0 \\\\", "near \\\\"},
		{"near 1 ", "near  \\\\"}, {"near 20 a", "near  Zz \\\\ a\\x20b"},
	})
	checkTalk(t, talk{
		{"pat 0 - ab", "ok"}, {"pat 1 - b", "ok"}, {"open 4", "ok"}, {"drain 0", "drained"}, {"feed a", "fed 1 0"}, {"feed bab", "fed 1 2"},
		{"drain 1", "drained 1:0:1"}, {"feed ab", "fed 1 2"}, {"feed b", "fed 0 2"},
		{"drain 9", "drained 1:1:1 0:2:0 1:2:0 1:3:1"}, {"feed b", "fed 1 0"}, {"close", "ok"}, {"feed a", "fed 0 4"}, {"feed", "fed 0 4"},
		{"drain 1", "drained 0:4:0"}, {"drain 999999999", "drained 1:4:0"},
		{"close", "no 4"}, {"reset 1000001", "no 3"}, {"close ", "no 4"}, {"reset 1000000", "ok"}, {"feed a", "fed 0 3"}, {"feed", "fed 0 0"},
		{"drain 5", "drained 1:1000000:1"}, {"reset 999999", "ok"}, {"feed xab", "fed 1 3"}, {"drain 5", "drained 1:999999:1 1:1000000:1"},
	})
}

func TestEmptyScripts(t *testing.T) {
	checkScript(t, "", "")
	for _, lines := range []string{"\n", " \n", "\n\n", "  \n \n\n", strings.Repeat(" ", 3999) + "\n", strings.Repeat("\n", 40), strings.Repeat("   \n", 40)} {
		checkScript(t, lines, "")
	}
}

func TestLinesOfBlanksSayNothing(t *testing.T) {
	lines := []string{"pat 0 - a", "open 3", "feed a", "scan a", "fly", "close", "drain 1"}
	want := impl.RunScript(linesOf(lines))
	for _, blank := range []string{"", " ", "       "} {
		for at := range len(lines) + 1 {
			checkScript(t, linesOf(slices.Insert(slices.Clone(lines), at, blank)), want)
		}
		checkScript(t, blank+"\n"+strings.Join(lines, "\n"+blank+"\n")+"\n"+blank+"\n", want)
	}
	checkTalk(t, talk{{"\t", "what"}, {" \t", "what"}, {"\r", "what"}, {"\x00", "what"}, {"\u00a0", "what"}, {" .", "what"}})
}

func TestScriptsWithTooManyLines(t *testing.T) {
	for _, line := range []string{"", " ", "fly", "scan a", "pat 0 - a", "feed a"} {
		for n := 35; n <= 45; n++ {
			lines := slices.Repeat([]string{line}, n)
			if n <= 40 {
				checkLines(t, lines)
			} else {
				checkScript(t, linesOf(lines), "too long\n")
			}
		}
	}
	full := slices.Repeat([]string{"fly"}, 40)
	checkScript(t, linesOf(full), strings.Repeat("what\n", 40))
	for at := range 41 {
		for _, blank := range []string{"", "  "} { // they count, too
			checkScript(t, linesOf(slices.Insert(slices.Clone(full), at, blank)), "too long\n")
			checkScript(t, linesOf(slices.Insert(slices.Clone(full[1:]), min(at, 39), blank)), strings.Repeat("what\n", 39))
		}
	}
	for _, n := range []int{80, 81, 296, 297, 4000} {
		checkScript(t, strings.Repeat("\n", n), "too long\n")
	}
}

func TestScriptsWithTooManyBytes(t *testing.T) {
	for _, begin := range []string{"", "pat 0 - a\nscan a\n", "fly\n\n"} {
		want := wantText(wantSaid(strings.Split(begin, "\n")))
		for n := 3990; n <= 4010; n++ {
			for _, fill := range []string{"x", " ", "\xff"} {
				text := begin + strings.Repeat(fill, n-len(begin)-1) + "\n"
				switch {
				case n > 4000:
					checkScript(t, text, "too long\n")
				case fill == " ":
					checkScript(t, text, want)
				default:
					checkScript(t, text, want+"what\n")
				}
			}
		}
	}
	for _, long := range []int{4095, 4096, 8000, 1 << 16, 1<<16 + 4000} {
		checkScript(t, "scan a\n"+strings.Repeat(" ", long)+"\n", "too long\n")
	}
	lines := slices.Repeat([]string{"feed " + strings.Repeat("a", 94)}, 40) // 100 bytes each, with their ends
	checkScript(t, linesOf(lines), strings.Repeat("no 1\n", 40))
	for at := range lines {
		more := slices.Clone(lines)
		more[at] += "a"
		checkScript(t, linesOf(more), "too long\n")
		more[at] = more[at][1:]
		checkScript(t, linesOf(more), linesOf(slices.Replace(slices.Repeat([]string{"no 1"}, 40), at, at+1, "what")))
	}
}

func TestScriptsThatAreNotEnded(t *testing.T) {
	for _, last := range []string{"close", "scan a", "fly", " ", "   ", "\r", "scan a\r"} {
		checkScript(t, last, "too long\n")
		checkScript(t, "scan a\n"+last, "too long\n")
		checkScript(t, "\n\n"+last, "too long\n")
		checkScript(t, strings.Repeat("\n", 39)+last, "too long\n")
		checkScript(t, strings.Repeat("\n", 40)+last, "too long\n")
	}
	checkScript(t, strings.Repeat("scan a\n", 40), strings.Repeat("found\n", 40))
	checkScript(t, strings.Repeat("scan a\n", 41), "too long\n")
	checkScript(t, strings.Repeat("x", 4000), "too long\n")
}

func TestWordsThatAreNoneOfTheTables(t *testing.T) {
	words := []string{"pat", "scan", "word", "near", "align", "open", "feed", "drain", "close", "reset"}
	var none []string
	for _, word := range words {
		upper := strings.ToUpper(word[:1]) + word[1:]
		for _, behind := range []string{"", " 1", " a", " 1 a", " 1 - a"} {
			for _, wrong := range []string{word + "s", word[1:], word[:len(word)-1], upper, strings.ToUpper(word), "x" + word, word + "\t", word + "\x00", word + word, " " + word, "  " + word} {
				none = append(none, wrong+behind)
			}
		}
		none = append(none, word+"1", word+"\\x201", word+"\t1", word+"-1", word+"\r", "\ufeff"+word+" 1")
		if word != "feed" && word != "close" {
			none = append(none, word)
		}
	}
	none = append(none, "what", "ok", "too long", "fly", "#", "# pat 0 - a", "1 - a", "found", "close1", "feed\\x20", "-", "\\", "\xff")
	checkAll(t, nil, none, "what")
	checkAll(t, begun(), none, "what")
}

func TestBlanksInLines(t *testing.T) {
	lines := []string{"scan ab", "word ab", "near 1 ab", "align ab abc", "open 9", "feed ab", "drain 1", "reset 1"}
	var none []string
	for _, line := range lines {
		none = append(none, " "+line, "  "+line, line+" ", line+"  ", strings.Replace(line, " ", "  ", 1))
	}
	none = append(none,
		"near  ab", "near 1  ab", "near 1", "near 1 a b", "near ab 1", "near ", "near  ", "align ab  abc", "align ab", "align", "align ", "align a b c",
		"scan a b", "scan  ", "word a b", "word  ", "feed a b", "feed  ", "feed   ", " feed", "open 1 1", "open ", "open", "drain 1 1", "drain ", "drain",
		"reset 1 1", "reset ", "reset", "close  ", "close   ", " close", "close 1", "close a", "close  1",
	)
	checkAll(t, nil, none, "what")
	checkAll(t, begun(), none, "what")
	checkTalk(t, append(begun(), talk{
		{"scan ", "found"}, {"feed", "fed 0 0"}, {"feed ", "fed 0 0"}, {"near 2 ", "near  ab"}, {"align  ", "0 "}, {"align a ", "1 -"}, {"align  a", "1 +"},
		{"close ", "ok"}, {"close ", "no 4"}, {"close", "no 4"}, {"feed", "fed 0 4"}, {"feed ", "fed 0 4"},
	}...))
	checkTalk(t, talk{{"feed", "no 1"}, {"feed ", "no 1"}, {"close", "no 1"}, {"close ", "no 1"}, {"word ", "ok"}, {"near 0 ", "near "}})
}

func TestNumbersThatAreNone(t *testing.T) {
	numbers := []string{
		"", "+1", "-1", "-0", "01", "00", "001", "1a", "a1", "1.", "1,0", "0x1", "1_0", " 1", "1 ", "\\x31", "1\\n", "\xb2", "\u0661", "1234567890",
		"1000000000", "0000000001", "4294967297", "18446744073709551617", "9223372036854775808", strings.Repeat("9", 100), "1e0", "a", "-", "\t1",
	}
	var none []string
	for _, number := range numbers {
		none = append(none, "open "+number, "drain "+number, "reset "+number, "near "+number+" a", "near "+number+" ")
	}
	checkAll(t, nil, none, "what")
	checkAll(t, begun(), none, "what")
	checkTalk(t, append(begun(), talk{
		{"drain 0", "drained"}, {"drain 1", "drained 0:1:1"}, {"drain 999999999", "drained 0:2:0 1:2:0"}, {"open 999999999", "no 2"}, {"open 101", "no 2"},
		{"open 100", "ok"}, {"open 0", "no 2"}, {"open 1", "no 2"}, {"open 2", "ok"},
		{"reset 999999999", "no 3"}, {"reset 1000001", "no 3"}, {"reset 1000000", "ok"}, {"reset 0", "ok"}, {"near 0 a", "near"}, {"near 19 ", "near  ab abc"},
		{"near 20 ", "near  ab abc"}, {"near 21 ", "what"}, {"near 100 ", "what"}, {"near 200 a", "what"}, {"near 999999999 a", "what"},
	}...))
}

func TestTextsThatUnescapedDoesNotRead(t *testing.T) {
	var none []string
	for _, text := range []string{
		"\\", "\\q", "\\N", "\\X41", "\\x", "\\x4", "\\x4g", "\\xAB", "\\x4A", "\\t", "\\0", "\\\"", "\\\\\\", "\t", "\r", "\x00", "\x1f", "\x7f", "\x80",
		"\xff", "\u00e4", "a b", " ",
	} {
		for _, text := range []string{text, "a" + text, text + "b"} {
			if text == "\\x4b" {
				continue
			}
			none = append(none, "scan "+text, "word "+text, "near 1 "+text, "feed "+text, "align "+text+" a", "align a "+text)
		}
	}
	checkAll(t, nil, none, "what")
	checkAll(t, begun(), none, "what")
	checkTalk(t, talk{
		{"word \\x41", "ok"}, {"word \\x5c\\\\", "ok"}, {"word \\x0a\\n", "ok"}, {"word \\x7e~\\xff", "ok"}, {"word #", "ok"},
		{"near 20 ", "near \\n\\n # A \\\\\\\\ ~~\\xff"}, {"align \\x61\\n \\x0a", "1 -="}, {"pat 0 - \\x62", "ok"}, {"scan ab\\x62", "found 0:2:0 0:3:0"},
		{"open 5", "ok"}, {"feed \\x62\\x63b", "fed 3 0"}, {"drain 5", "drained 0:1:0 0:3:0"},
	})
}

// TestAllBytesInTexts: each byte, written in each way, where a text stands.
func TestAllBytesInTexts(t *testing.T) {
	all := allBytes()
	for b := range 256 {
		raw, escaped := all[b:b+1], fmt.Sprintf("\\x%02x", b)
		if raw == "\n" {
			continue
		}
		for _, text := range []string{raw, escaped, wantEscaped(raw), raw + escaped} {
			checkLines(t, []string{
				"pat 0 - " + text, "pat 0 - " + escaped, "pat 1 i " + escaped + "\\x41", "scan a" + text, "scan " + escaped, "word " + text, "word " + escaped,
				"near 1 " + text, "align " + text + " " + escaped, "align " + escaped + " " + text, "open 50", "feed " + text, "feed " + escaped, "drain 50",
				"close" + raw, "open 5" + raw, raw + "drain 1", raw,
			})
		}
	}
}

func TestLongTexts(t *testing.T) {
	for _, length := range []int{199, 200, 201, 202, 256, 300} {
		for _, one := range []string{"a", "\\x61", "\\\\", "\\xff"} {
			text := strings.Repeat(one, length)
			lines := []string{"pat 0 - " + one, "open 100", "scan " + text}
			checkLines(t, append(lines, "feed "+text))
			checkLines(t, append(lines, "align "+text+" a"))
			checkLines(t, append(lines, "align a "+text))
			checkLines(t, append(lines, "align  "+text))
			scanned := impl.RunScript("scan " + text + "\n")
			if is := scanned == "what\n"; is != (length > 200) {
				t.Errorf("%d bytes of %s are scanned: %q", length, one, scanned)
			}
		}
	}
	full := strings.Repeat("ab", 100)
	checkTalk(t, talk{
		{"align " + full + " " + full, "0 " + strings.Repeat("=", 200)}, {"align " + full + "a " + full, "what"}, {"align " + full + " " + full + "a", "what"},
		{"align " + full + " ", "200 " + strings.Repeat("-", 200)}, {"align  " + full, "200 " + strings.Repeat("+", 200)},
		{"scan " + full, "found"}, {"scan " + full + "a", "what"}, {"pat 0 - bc", "ok"}, {"open 1", "ok"},
		{"feed " + full, "fed 200 0"}, {"feed " + full + "a", "fed 201 0"}, {"feed " + full + full + full + "bcxbc", "fed 604 2"},
	})
	checkTalk(t, talk{{"open 1", "ok"}, {"feed " + strings.Repeat("a", 3900), "fed 3900 0"}})
	checkTalk(t, talk{{"feed " + strings.Repeat("a", 201), "no 1"}})
}

func TestLongWords(t *testing.T) {
	for _, one := range []string{"a", "\\x61", "\\n", "\\xff"} {
		full := strings.Repeat(one, 20)
		checkTalk(t, talk{
			{"word " + full + one, "what"}, {"near 20 " + full, "near"}, {"near 20 " + full + one, "what"}, {"near 0 " + full + one, "what"},
			{"word " + full, "ok"}, {"near 20 ", "near " + wantEscaped(wantUnescaped(full))}, {"near 19 ", "near"}, {"near 21 ", "what"},
		})
		for _, length := range []int{19, 20, 21, 22, 40, 200, 201, 256, 276} {
			text := strings.Repeat(one, length)
			checkLines(t, []string{"word " + text, "near 20 b", "near 0 " + text, "pat 2 i " + text, "scan aa"})
		}
	}
}

func TestPatternsInScripts(t *testing.T) {
	long := strings.Repeat("a", 20)
	checkAll(t, begun(), []string{
		"pat ", "pat #", "pat # 0 - a", "pat #1 - a", "pat  ", "pat  0 - a", "pat a", "pat 0", "pat 5 - a", "pat 9 i a", "pat 01 - a", "pat +1 - a",
		"pat 1- a", "pat - a", "pat \\x31 - a", "pat - - a", "pat 1000000000 q a", "pat 0\t- a",
	}, "no 1")
	checkAll(t, begun(), []string{
		"pat 0 ", "pat 0 a", "pat 0 -", "pat 0 i", "pat 0 I a", "pat 0 ii a", "pat 0  - a", "pat 0 q a", "pat 1  a", "pat 4 \\x69 a", "pat 0 #",
	}, "no 3")
	checkAll(t, begun(), []string{
		"pat 0 - ", "pat 0 -  ", "pat 0 -  a", "pat 0 - " + long + "a", "pat 0 - \\q", "pat 0 - \\", "pat 4 i \xff", "pat 0 - " + strings.Repeat("\\xff", 21),
	}, "no 5")
	checkAll(t, begun(), []string{"pat 0 - a ", "pat 0 - a b", "pat 0 - a\\q", "pat 0 - a\\x4", "pat 0 - a\ta"}, "no 6")
	checkTalk(t, append(begun(), talk{
		{"pat 4 i " + long, "ok"}, {"pat 0 - " + strings.Repeat("\\x61", 20), "ok"}, {"pat 0 - " + long + " ", "no 25"}, {"pat 0 - " + long + "\\", "no 25"},
		{"pat 0 i #", "ok"}, {"pat 4 - \\x23", "ok"}, {"scan #", "found 5:0:1 4:1:0 5:1:0"},
	}...))
	checkTalk(t, talk{
		{"pat", "what"}, {"pat ", "no 1"}, {"pat 2 - a", "ok"}, {"scan ", "found 0:0:1"},
		{"pat 2 - a", "ok"}, {"scan ", "found 0:0:1 1:0:1"}, // one may stand there twice
	})
}

func TestTooManyPatternsInAScript(t *testing.T) {
	l := talk{}
	for i := range 8 {
		l = append(l, [2]string{fmt.Sprintf("pat 0 - %d", i), "ok"}, [2]string{"pat 5 - a", "no 1"})
	}
	checkTalk(t, append(l, talk{
		// what is wrong with a line is told ahead of there being eight
		{"pat 0 - a", "no 0"}, {"pat 0 - 7", "no 0"}, {"pat 5 - a", "no 1"}, {"pat 0 q a", "no 3"}, {"pat 0 - ", "no 5"}, {"pat 0 - a\\q", "no 6"}, {"pat ", "no 1"}, {"pat #", "no 1"},
		{"scan 7a0", "found 7:1:0 0:3:0"}, {"open 7", "no 2"}, {"open 8", "ok"}, {"pat 4 - a", "no 0"}, {"feed 7a", "fed 2 0"}, {"drain 9", "drained 7:1:0"},
	}...))
}

func TestTooManyWordsInAScript(t *testing.T) {
	l := talk{}
	for i := range 30 {
		l = append(l, [2]string{fmt.Sprintf("word %d", i%3), "ok"}) // the same ones count, too
	}
	l = append(l, talk{
		{"word a", "what"}, {"word 0", "what"}, {"word ", "what"}, {"near 20 ", "near 0 1 2"}, {"near 0 a", "near"},
		{"word " + strings.Repeat("a", 21), "what"}, {"near 0 1", "near 1"}, {"scan a", "found"},
	}...)
	checkTalk(t, l)
}

func TestWordsThatAreNearInAScript(t *testing.T) {
	r := rand.New(rand.NewPCG(20, 1))
	for range 60 {
		var lines []string
		for _, word := range someWords(r, r.IntN(31), 1+r.IntN(20)) {
			lines = append(lines, "word "+wantEscaped(word))
		}
		for _, w := range someWords(r, 8, 1+r.IntN(20)) {
			lines = append(lines, fmt.Sprintf("near %d %s", r.IntN(22), wantEscaped(w)))
		}
		if len(linesOf(lines)) <= 4000 {
			checkLines(t, lines)
		}
	}
}

func TestAlignmentsInAScript(t *testing.T) {
	r := rand.New(rand.NewPCG(20, 2))
	for range 30 {
		var lines []string
		for range 10 {
			a := someText(r, "abAB\\\n \xff", r.IntN(25))
			lines = append(lines, "align "+wantEscaped(a)+" "+wantEscaped(faulty(r, a, r.IntN(6))))
		}
		checkLines(t, lines)
	}
}

// TestASessionOpenedAnew: the one that is open is given up, unless there is none
// to be opened.
func TestASessionOpenedAnew(t *testing.T) {
	checkTalk(t, talk{
		{"pat 0 - ab", "ok"}, {"open 3", "ok"}, {"feed xaba", "fed 4 0"}, {"open 0", "no 2"}, {"open 101", "no 2"}, {"feed b", "fed 1 0"}, {"open x", "what"},
		{"open", "what"}, {"drain 1", "drained 0:3:0"}, {"drain 9", "drained 0:5:0"},
		{"feed a", "fed 1 0"}, {"open 1", "ok"}, {"feed b", "fed 1 0"}, {"drain 9", "drained"}, {"feed abab", "fed 3 2"}, {"drain 9", "drained 0:3:0"},
		{"close", "ok"}, {"open 2", "ok"}, {"feed abab", "fed 4 0"}, {"open 101", "no 2"}, {"close", "ok"}, {"open 0", "no 2"}, {"feed a", "fed 0 4"},
		{"drain 9", "drained 0:2:0 0:4:0"}, {"close", "no 4"}, {"open 2", "ok"}, {"drain 9", "drained"}, {"close", "ok"},
	})
}

// TestPatternsBehindOpen: a session goes on with the patterns with which it was
// opened, also when it is reset; a scan has all.
func TestPatternsBehindOpen(t *testing.T) {
	checkTalk(t, talk{
		{"open 2", "ok"}, {"pat 1 - a", "ok"}, {"pat 0 - b", "ok"}, {"scan ab", "found 0:0:1 0:1:0 0:2:1 1:2:0"}, {"feed ab", "fed 2 0"},
		{"drain 9", "drained"}, {"reset 0", "ok"}, {"feed ab", "fed 2 0"}, {"drain 9", "drained"}, {"open 1", "no 2"}, {"feed b", "fed 1 0"},
		{"drain 9", "drained"},
		{"open 4", "ok"}, {"pat 0 - a", "ok"}, {"scan a", "found 0:0:1 0:1:0 2:1:0"}, {"feed ab", "fed 2 0"}, {"drain 9", "drained 0:0:1 0:1:0 0:2:1 1:2:0"},
		{"reset 7", "ok"}, {"drain 9", "drained 0:7:1"}, {"feed a", "fed 1 0"}, {"drain 9", "drained 0:8:0"}, {"open 5", "ok"}, {"feed a", "fed 1 0"},
		{"drain 9", "drained 0:0:1 0:1:0 2:1:0"},
	})
}

// TestWhatIsRefusedChangesNothing puts lines that are refused, or are none,
// behind each line of a script.
func TestWhatIsRefusedChangesNothing(t *testing.T) {
	lines := []string{"pat 1 - ab", "word ab", "open 3", "feed abx", "drain 1", "feed b", "drain 9", "reset 5", "feed ab", "near 1 a", "scan ab", "drain 9"}
	refused := []string{
		"pat 5 - a", "pat 1 - ", "pat 0 - a b", "pat #", "open 0", "open 101", "open 3 ", "reset 1000001", "reset 999999999", "reset -1", "feed \\q", "feed  ",
		"drain", "drain x", "close 1", "close  ", "word a b", "word " + strings.Repeat("a", 21), "near 21 a", "scan " + strings.Repeat("a", 201), "fly", "pat",
	}
	for _, line := range refused {
		checkPutBehind(t, lines, []string{line})
	}
	closed := []string{"pat 1 - ab", "open 3", "feed ab", "close", "drain 1", "reset 1000001", "drain 1", "drain 1"}
	for _, line := range append(refused[:9:9], "close", "close ", "feed", "feed ab", "open 999") {
		for at := 4; at <= len(closed); at++ {
			checkPutAt(t, closed, at, []string{line})
		}
	}
}

// checkPutAt looks that all lines say what they say without those that are put
// among them, and that these say what they have to.
func checkPutAt(t *testing.T, lines []string, at int, put []string) {
	t.Helper()
	all := slices.Insert(slices.Clone(lines), at, put...)
	said := strings.Split(impl.RunScript(linesOf(all)), "\n")
	if len(said) != len(all)+1 {
		t.Fatalf("%q say %q", all, said)
	}
	without := slices.Delete(slices.Clone(said), at, at+len(put))
	if want := impl.RunScript(linesOf(lines)); strings.Join(without, "\n") != want {
		t.Fatalf("with %q behind %q of %q it is said %q, without %q", put, lines[:at], lines, without, want)
	}
	if want := wantSaid(all); !slices.Equal(said[at:at+len(put)], want[at:at+len(put)]) {
		t.Fatalf("%q say %q, want %q", put, said[at:], want[at:])
	}
}

// checkPutBehind does so behind each line, and then behind all of them at once.
func checkPutBehind(t *testing.T, lines []string, put []string) {
	t.Helper()
	for at := range len(lines) + 1 {
		checkPutAt(t, lines, at, put)
	}
	var all, without []string
	for _, line := range lines {
		all = append(append(all, line), put...)
	}
	said := strings.Split(impl.RunScript(linesOf(all)), "\n")
	for at := 0; at < len(said); at += 1 + len(put) {
		without = append(without, said[at])
	}
	if want := impl.RunScript(linesOf(lines)); strings.Join(without, "\n") != want {
		t.Fatalf("with %q behind each of %q it is said %q, without %q", put, lines, without, want)
	}
}

// TestLinesThatAskChangeNothing puts scan, near and align behind each line of
// scripts with open, feed, drain, close and reset.
func TestLinesThatAskChangeNothing(t *testing.T) {
	scripts := [][]string{
		{"pat 1 - ab", "open 3", "feed xab", "drain 1", "feed b", "drain 2", "reset 7", "feed ba", "close", "drain 9"},
		{"word ab", "word b", "pat 0 i A", "pat 4 - b", "open 9", "feed aAb", "word a", "drain 3", "near 1 a", "drain 9"},
		{"open 2", "feed a", "pat 0 - a", "feed a", "reset 3", "feed a", "open 1", "feed aa", "drain 9", "feed a"},
		{"feed a", "drain 1", "close", "reset 1", "pat 2 - ab", "open 1", "feed a", "close", "close", "feed a"},
	}
	asked := []string{"scan ", "scan abABab", "scan " + strings.Repeat("ab", 40), "near 0 ab", "near 20 ", "near 1 b", "align ab b", "align  ", "align abab baba"}
	for _, lines := range scripts {
		for _, line := range asked {
			checkPutBehind(t, lines, []string{line})
		}
		checkPutBehind(t, lines, []string{"scan ab", "near 1 ab", "align ab ba"})
		checkPutBehind(t, lines, []string{"align ab abc", "scan xab\\x41", "near 20 a"})
	}
	r := rand.New(rand.NewPCG(20, 3))
	for range 100 {
		var lines, put []string
		for range 13 {
			lines = append(lines, someLine(r))
		}
		for range 2 {
			a, b := someText(r, "abA", r.IntN(20)), someText(r, "abx", r.IntN(5))
			put = append(put, someOf(r, "scan "+a, fmt.Sprintf("near %d %s", r.IntN(21), b), "align "+a+" "+b))
		}
		checkPutBehind(t, lines, put)
	}
}

func someOf(r *rand.Rand, l ...string) string {
	return l[r.IntN(len(l))]
}

// someLine gives a line that is right, more often than not.
func someLine(r *rand.Rand) string {
	text := wantEscaped(someText(r, "abABab \\\xff", r.IntN(8)))
	number := someOf(r, "0", "1", "2", "3", "5", "9", "20", "21", "100", "101", "999998", "1000000", "1000001", "999999999", "01", "1234567890", "x", "")
	switch r.IntN(16) {
	case 0, 1:
		return fmt.Sprintf("pat %d %s %s", r.IntN(6), someOf(r, "i", "-", "i", "-", "q"), text[:min(len(text), 3)])
	case 2:
		return "scan " + text
	case 3:
		return "word " + text
	case 4:
		return "near " + number + " " + text
	case 5:
		return "align " + text + " " + someOf(r, text, "ab", "", "ba")
	case 6, 7:
		return "open " + someOf(r, number, "4", "8", "12", "50")
	case 8, 9, 10:
		return "feed" + someOf(r, "", " ", " ", " ab", " a") + text
	case 11, 12:
		return "drain " + number
	case 13:
		return "close" + someOf(r, "", "", " ", "  ", "s")
	case 14:
		return "reset " + number
	default:
		return someOf(r, "fly", text+" .", "feed", "feed \\q", "scan", "pat", "drain", "open")
	}
}

func TestScriptsOfSomeLines(t *testing.T) {
	r := rand.New(rand.NewPCG(20, 4))
	often := map[string]int{}
	for range 2000 {
		lines := []string{"pat 0 - ab", "pat 1 i b"}[:r.IntN(3)]
		for range r.IntN(39) {
			lines = append(lines, someLine(r))
		}
		checkLines(t, lines)
		for i, said := range wantSaid(lines) {
			words := strings.Fields(said)
			key := strings.Fields(lines[i])[0] + ": " + words[0]
			if words[0] == "no" || words[0] == "fed" {
				key += " .. " + words[len(words)-1]
			}
			often[key]++
		}
	}
	for _, way := range []string{
		"pat: ok", "pat: no .. 1", "pat: no .. 3", "pat: no .. 5", "pat: what", "scan: found", "scan: what", "word: ok", "near: near", "near: what",
		"open: ok", "open: no .. 2", "open: what",
		"feed: fed .. 0", "feed: fed .. 2", "feed: fed .. 3", "feed: fed .. 4", "feed: no .. 1", "feed: what", "drain: drained", "drain: no .. 1", "drain: what",
		"close: ok", "close: no .. 1", "close: no .. 4", "close: what", "reset: ok", "reset: no .. 1", "reset: no .. 3", "reset: what",
	} {
		if often[way] < 20 {
			t.Errorf("%q came only %d times: %v", way, often[way], often)
		}
	}
}

// TestEachLineOfAScript has each word of the table, and others, with all sorts of
// what may stand behind it, behind some scripts.
func TestEachLineOfAScript(t *testing.T) {
	words := []string{"pat", "scan", "word", "near", "align", "open", "feed", "drain", "close", "reset", "pats", "sca", "", "Feed"}
	parts := []string{"", " ", "1", "0", "a", "-", "\\x20", "\\q", "01", "#", "21"}
	var behind []string
	for _, a := range parts {
		for _, b := range parts {
			behind = append(behind, a+b, " "+a+b, " 1 "+a+b, " a "+a+b, " "+a+" "+b)
		}
	}
	slices.Sort(behind)
	behind = slices.Compact(behind)
	full := []string{}
	for i := range 30 {
		full = append(full, fmt.Sprint("word ", i))
	}
	for _, before := range [][]string{nil, {"pat 1 - 1", "word a", "open 3", "feed 1"}, {"pat 1 - a", "open 1", "close"}, slices.Repeat([]string{"pat 1 i a"}, 8), full} {
		for _, word := range words {
			for _, rest := range behind {
				checkLines(t, append(slices.Clone(before), word+rest, "drain 1"))
			}
		}
	}
}

// TestWhatAScriptSaidStaysSaid: a script is run whole, and each of its
// beginnings alone.
func TestWhatAScriptSaidStaysSaid(t *testing.T) {
	r := rand.New(rand.NewPCG(20, 5))
	for range 300 {
		var lines []string
		for range 40 {
			lines = append(lines, someOf(r, someLine(r), someLine(r), someLine(r), "", "  "))
		}
		whole := impl.RunScript(linesOf(lines))
		ahead := ""
		for n := range len(lines) + 1 {
			said := impl.RunScript(linesOf(lines[:n]))
			if !strings.HasPrefix(whole, said) || !strings.HasPrefix(said, ahead) {
				t.Fatalf("%q say %q, and whole %q", lines[:n], said, whole)
			}
			if more := strings.Count(said[len(ahead):], "\n"); n > 0 && (more == 0) != blankLine(lines[n-1]) || more > 1 {
				t.Fatalf("%q says %d lines", lines[n-1], more)
			}
			ahead = said
		}
		if ahead != whole {
			t.Fatalf("%q say %q, and %q", lines, ahead, whole)
		}
		checkScript(t, linesOf(append(lines, "")), "too long\n")
	}
}

// TestScriptsTellWhatScansTell: a session in a script that is fed a text in
// chunks and drained tells what a scan of the text tells.
func TestScriptsTellWhatScansTell(t *testing.T) {
	r := rand.New(rand.NewPCG(20, 6))
	for range 100 {
		lines := []string{"pat 1 - ab", "pat 0 i Bb", "pat 2 - ba"}
		text := someText(r, "abAB", 30)
		lines = append(lines, "scan "+text, "open 100")
		for len(text) > 0 {
			length := min(len(text), r.IntN(8))
			lines = append(lines, "feed "+text[:length], fmt.Sprint("drain ", r.IntN(4)))
			text = text[length:]
			if len(lines) > 36 {
				lines = append(lines, "feed "+text)
				break
			}
		}
		lines = append(lines, "drain 100")
		var scanned, drained string
		for line := range strings.Lines(impl.RunScript(linesOf(lines))) {
			if found, ok := strings.CutPrefix(line, "found"); ok {
				scanned = found
			}
			if recs, ok := strings.CutPrefix(line, "drained"); ok {
				drained += strings.TrimSuffix(recs, "\n")
			}
		}
		if scanned != drained+"\n" || len(drained) < 20 {
			t.Fatalf("%q: it is found %q, and drained %q", lines, scanned, drained)
		}
	}
}

// TestScriptsSayTheSameAgain: neither another script, nor one that runs at the
// same time, makes a difference.
func TestScriptsSayTheSameAgain(t *testing.T) {
	r := rand.New(rand.NewPCG(20, 7))
	var scripts, said []string
	for range 40 {
		var lines []string
		for range 30 {
			lines = append(lines, someLine(r))
		}
		scripts, said = append(scripts, linesOf(lines)), append(said, wantText(wantSaid(lines)))
	}
	for range 3 {
		for i, text := range scripts {
			checkScript(t, text, said[i])
			checkScript(t, text, said[i])
		}
		for i, text := range slices.Backward(scripts) {
			checkScript(t, "feed a\ndrain 1\nnear 20 \nscan a\n", "no 1\nno 1\nnear\nfound\n")
			checkScript(t, text, said[i])
		}
	}
	var all sync.WaitGroup
	for i, text := range scripts {
		for range 4 {
			all.Go(func() {
				if got := impl.RunScript(text); got != said[i] {
					t.Errorf("RunScript(%q) at the same time = %q, want %q", text, got, said[i])
				}
			})
		}
	}
	all.Wait()
}

func TestScriptsAreOnlyReadAndNotShared(t *testing.T) {
	for _, text := range []string{"pat 1 i aB\nword abc\nopen 9\nfeed xab\ndrain 9\nnear 1 ab\nscan ab\nalign a \\x61\n", "fly\n", "\n", "too long", "pat 5\nclose\n"} {
		memory := []byte(text)
		said := impl.RunScript(unsafe.String(&memory[0], len(memory)))
		if string(memory) != text {
			t.Errorf("%q has become %q", text, memory)
		}
		want := strings.Clone(said)
		for i := range memory {
			memory[i] = '!'
		}
		if said != want || strings.Contains(said, "!") {
			t.Errorf("what %q says has become %q", text, said)
		}
	}
}
