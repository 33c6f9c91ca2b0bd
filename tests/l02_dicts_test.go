package tests

import (
	"bytes"
	"math"
	"regexp"
	"slices"
	"strconv"
	"strings"
	"testing"
	"unsafe"

	"loop.example/g00568/impl"
)

func TestPatternOk(t *testing.T) {
	full := strings.Repeat("a", 20)
	for _, c := range []struct {
		p    impl.Pattern
		want bool
	}{
		{impl.Pattern{Text: "a"}, true},
		{impl.Pattern{Text: "a", Fold: true}, true},
		{impl.Pattern{Text: "a", K: 4}, true},
		{impl.Pattern{Text: full, K: 4, Fold: true}, true},
		{impl.Pattern{Text: "\x00\xff\n \\"}, true},
		{impl.Pattern{}, false},
		{impl.Pattern{K: 1}, false},
		{impl.Pattern{Text: full + "a"}, false},
		{impl.Pattern{Text: strings.Repeat("a", 276)}, false},
		{impl.Pattern{Text: "a", K: 5}, false},
		{impl.Pattern{Text: "a", K: -1}, false},
		{impl.Pattern{Text: "a", K: math.MaxInt64}, false},
		{impl.Pattern{Text: "a", K: math.MinInt64}, false},
	} {
		if impl.PatternOk(c.p) != c.want {
			t.Errorf("PatternOk(%+v) is not %v", c.p, c.want)
		}
		if impl.DictOk([]impl.Pattern{c.p}) != c.want {
			t.Errorf("DictOk of %+v alone is not %v", c.p, c.want)
		}
	}
}

func manyPatterns(n int) []impl.Pattern {
	var d []impl.Pattern
	for i := range n {
		d = append(d, impl.Pattern{Text: "p" + strconv.Itoa(i), K: int64(i % 5), Fold: i%2 == 1})
	}
	return d
}

func TestDictOk(t *testing.T) {
	for n := range 20 {
		if impl.DictOk(manyPatterns(n)) != (n <= 8) {
			t.Errorf("DictOk of %d patterns is not %v", n, n <= 8)
		}
	}
	if !impl.DictOk(nil) || !impl.DictOk([]impl.Pattern{}) {
		t.Error("a dictionary without patterns is right")
	}
	if !impl.DictOk(slices.Repeat([]impl.Pattern{{Text: "a"}}, 8)) {
		t.Error("a dictionary may have a pattern more than once")
	}
	for i := range 8 {
		d := manyPatterns(8)
		d[i].Text = ""
		if impl.DictOk(d) {
			t.Errorf("DictOk overlooks the pattern at %d", i)
		}
	}
}

func wantEscaped(s string) string {
	out := ""
	for _, b := range []byte(s) {
		switch {
		case b == 92:
			out += `\\`
		case b == 10:
			out += `\n`
		case b < 16:
			out += `\x0` + strconv.FormatInt(int64(b), 16)
		case b < 33 || b > 126:
			out += `\x` + strconv.FormatInt(int64(b), 16)
		default:
			out += string(rune(b))
		}
	}
	return out
}

func TestEscaped(t *testing.T) {
	for s, want := range map[string]string{
		"":               "",
		"a":              "a",
		"\\":             `\\`,
		"\n":             `\n`,
		" ":              `\x20`,
		"!":              "!",
		"~":              "~",
		"\x00":           `\x00`,
		"\t\r":           `\x09\x0d`,
		"\x7f\x80\xff":   `\x7f\x80\xff`,
		"\\n":            `\\n`,
		"a b\\\n\xabc#":  `a\x20b\\\n\xabc#`,
		"\u00e4":         `\xc3\xa4`,
		"no \"quotes\"'": `no\x20"quotes"'`,
	} {
		if got := impl.Escaped(s); got != want {
			t.Errorf("Escaped(%q) = %q, want %q", s, got, want)
		}
	}
}

func checkEscaped(t *testing.T, s string) {
	t.Helper()
	e := impl.Escaped(s)
	if e != wantEscaped(s) {
		t.Errorf("Escaped(%q) = %q, want %q", s, e, wantEscaped(s))
	}
	if back, ok := impl.Unescaped(e); !ok || back != s {
		t.Errorf("Unescaped(%q) = %q, %v, want %q", e, back, ok, s)
	}
}

func TestWhatIsEscapedComesBack(t *testing.T) {
	all := allBytes()
	checkEscaped(t, "")
	checkEscaped(t, all)
	checkEscaped(t, strings.Repeat(all, 40))
	for a := range 256 {
		checkEscaped(t, all[a:a+1])
		for b := range 256 {
			checkEscaped(t, all[a:a+1]+all[b:b+1])
		}
	}
}

func checkUnescaped(t *testing.T, s string, want string, wantOk bool) {
	t.Helper()
	if got, ok := impl.Unescaped(s); ok != wantOk || got != want {
		t.Errorf("Unescaped(%q) = %q, %v, want %q, %v", s, got, ok, want, wantOk)
	}
}

func TestUnescapedOneByte(t *testing.T) {
	all := allBytes()
	for b := range 256 {
		s := all[b : b+1]
		if b >= 33 && b <= 126 && b != 92 {
			checkUnescaped(t, s, s, true)
			checkUnescaped(t, "a"+s+"b", "a"+s+"b", true)
			continue
		}
		checkUnescaped(t, s, "", false)
		checkUnescaped(t, "a"+s, "", false)
		checkUnescaped(t, s+"q", "", false)
	}
}

func TestUnescapedBehindABackslash(t *testing.T) {
	all := allBytes()
	for b := range 256 {
		s := `\` + all[b:b+1]
		switch b {
		case '\\':
			checkUnescaped(t, s, `\`, true)
		case 'n':
			checkUnescaped(t, s, "\n", true)
		default:
			checkUnescaped(t, s, "", false)
		}
	}
}

func TestUnescapedTwoDigits(t *testing.T) {
	all, digits := allBytes(), "0123456789abcdef"
	for a := range 256 {
		for b := range 256 {
			s := `\x` + all[a:a+1] + all[b:b+1]
			high, low := strings.IndexByte(digits, byte(a)), strings.IndexByte(digits, byte(b))
			if high < 0 || low < 0 {
				checkUnescaped(t, s, "", false)
				continue
			}
			checkUnescaped(t, s, string([]byte{byte(high*16 + low)}), true)
		}
	}
}

func TestUnescaped(t *testing.T) {
	for s, want := range map[string]string{
		"":                "",
		`a\\b`:            `a\b`,
		`\\n`:             `\n`,
		`\\\n`:            "\\\n",
		`\\x41`:           `\x41`,
		`\x41\x5c\x0a`:    "A\\\n",
		`\x412`:           "A2",
		`\xff\x00\x7f`:    "\xff\x00\x7f",
		`#q"'/`:           `#q"'/`,
		`\x5cn`:           `\n`,
		`\x20\x20x20\x20`: "  x20 ",
	} {
		checkUnescaped(t, s, want, true)
	}
	for _, s := range []string{
		`\`, `a\`, `\\\`, `\q`, `\N`, `\X41`, `\x`, `\x4`, `abc\x4`, `\x4G`, `\xg4`, `\xAB`, `\xaB`, `\xAb`,
		`\x 4`, `\x4 `, `\x-1`, `\x\\`, `\x4\`, " ", "a b", "\n", "a\n", "\t", "\r", "\x7f", "\x80", "\xff", "\u00e4", "\x00",
	} {
		checkUnescaped(t, s, "", false)
		checkUnescaped(t, s+"tail"+s, "", false)
	}
}

func TestDictText(t *testing.T) {
	for want, d := range map[string][]impl.Pattern{
		"":                                       nil,
		"0 - a\n":                                {{Text: "a"}},
		"4 i a\n":                                {{Text: "a", K: 4, Fold: true}},
		"2 - ab\\x20c\n0 i X\n":                  {{Text: "ab c", K: 2}, {Text: "X", Fold: true}},
		"1 - #\n1 - \\\\\n1 - \\n\n3 i \\xff9\n": {{Text: "#", K: 1}, {Text: "\\", K: 1}, {Text: "\n", K: 1}, {Text: "\xff9", K: 3, Fold: true}},
	} {
		if got := impl.DictText(d); got != want {
			t.Errorf("DictText(%+v) = %q, want %q", d, got, want)
		}
	}
}

func TestDictTextOfNone(t *testing.T) {
	for _, p := range []impl.Pattern{{}, {Text: strings.Repeat("a", 21)}, {Text: "a", K: 5}, {Text: "a", K: -1}} {
		for at := range 3 {
			d := slices.Insert([]impl.Pattern{{Text: "b"}, {Text: "c", K: 4}}, at, p)
			if got := impl.DictText(d); got != "" {
				t.Errorf("DictText(%+v) = %q", d, got)
			}
		}
	}
	if got := impl.DictText(manyPatterns(9)); got != "" {
		t.Errorf("DictText of nine = %q", got)
	}
}

func checkDict(t *testing.T, s string, want []impl.Pattern) {
	t.Helper()
	d, line, col := impl.ReadDict(s)
	if !slices.Equal(d, want) || line != 0 || col != 0 {
		t.Errorf("ReadDict(%q) = %+v, %d, %d, want %+v", s, d, line, col, want)
	}
}

func checkWrong(t *testing.T, s string, line int64, col int64) {
	t.Helper()
	d, gotLine, gotCol := impl.ReadDict(s)
	if len(d) != 0 || gotLine != line || gotCol != col {
		t.Errorf("ReadDict(%q) = %+v, %d, %d, want none, %d, %d", s, d, gotLine, gotCol, line, col)
	}
}

func TestARightDictionaryComesBack(t *testing.T) {
	for n := range 9 {
		checkDict(t, impl.DictText(manyPatterns(n)), manyPatterns(n))
	}
	all := allBytes()
	var d []impl.Pattern
	for at := range 256 {
		from := min(at, 236)
		p := impl.Pattern{Text: all[from : from+1+at%20], K: int64(at % 5), Fold: at%3 == 0}
		d = append(d, p)
		if len(d) == 8 {
			checkDict(t, impl.DictText(d), d)
			d = nil
		}
	}
	for b := range 256 {
		d := []impl.Pattern{{Text: all[b : b+1], K: 4}, {Text: strings.Repeat(all[b:b+1], 20), Fold: true}}
		checkDict(t, impl.DictText(d), d)
	}
}

func TestReadDict(t *testing.T) {
	full := strings.Repeat("a", 20)
	for s, want := range map[string][]impl.Pattern{
		"":                           nil,
		"\n":                         nil,
		"\n\n\n":                     nil,
		"#\n":                        nil,
		"# 9 q\x00 \\q\n#\n\n":       nil,
		"0 - a\n":                    {{Text: "a"}},
		"# q\n\n4 i a\n\n#\n0 - b\n": {{Text: "a", K: 4, Fold: true}, {Text: "b"}},
		"0 - a\n0 - a\n":             {{Text: "a"}, {Text: "a"}},
		"0 - \\x41\\x0a\\x5c\n":      {{Text: "A\n\\"}},
		"0 - #i-0\n":                 {{Text: "#i-0"}},
		"0 - -\n0 i i\n":             {{Text: "-"}, {Text: "i", Fold: true}},
		"3 - " + full + "\n":         {{Text: full, K: 3}},
		"3 - " + strings.Repeat(`\x00`, 20) + "\n": {{Text: strings.Repeat("\x00", 20), K: 3}},
	} {
		checkDict(t, s, want)
	}
}

func TestReadDictTellsTheColumn(t *testing.T) {
	long := strings.Repeat("a", 21)
	for s, col := range map[string]int64{
		// the last line is not ended
		"0 i a": 6, "#": 2, "# some": 7, "0": 2, " ": 2, "x": 2, "9 q \\": 6, "0 - " + long: 26,
		// no number up to MaxK, or no blank
		"x i a\n": 1, "5 i a\n": 1, "10 i a\n": 1, "00 i a\n": 1, "04 i a\n": 1, "-0 i a\n": 1, "-1 i a\n": 1, "+1 i a\n": 1, "1x i a\n": 1, "x1 i a\n": 1,
		" 1 i a\n": 1, " \n": 1, "  \n": 1, " #\n": 1, "1\n": 1, "1i\n": 1, "x\n": 1, "\\\n": 1, "\x00\n": 1, "1\ti a\n": 1, "1.0 i a\n": 1, "0x1 i a\n": 1,
		"4294967296 i a\n": 1, "18446744073709551616 i a\n": 1, "999999999 i a\n": 1, "1000000000 i a\n": 1, "0000000001 i a\n": 1, "/ i a\n": 1, ": i a\n": 1, "\r\n": 1,
		// neither i nor -, or no second blank
		"1 \n": 3, "1  \n": 3, "1  i a\n": 3, "1 q a\n": 3, "1 I a\n": 3, "1 ii a\n": 3, "1 -- a\n": 3, "1 i- a\n": 3, "1 i\n": 3, "1 -\n": 3, "1 ia\n": 3, "1 q\n": 3, "1 i\ta\n": 3, "1 + a\n": 3,
		// what can not be Unescaped
		"1 i  \n": 5, "1 i  a\n": 5, "1 i ab c\n": 7, "1 - a \n": 6, "1 - a\\q\n": 6, "1 - \\\n": 5, "1 - \\x4\n": 5, "1 - ab\\x4G\n": 7, "1 - \\xAB\n": 5, "1 - \\x41\\X41\n": 9,
		"1 - \\\\\\\n": 7, "1 - \\n\\n\\\n": 9, "1 - \\x5c\\q\n": 9, "1 - a\tb\n": 6, "1 - a\x7f\n": 6, "1 - a\x80\n": 6, "1 - a\xff\n": 6, "1 - \x00\n": 5, "1 - a\r\n": 6, "1 - \\x4 1\n": 5,
		// a text that is not right
		"1 i \n": 5, "4 - \n": 5, "1 i " + long + "\n": 5, "0 - " + strings.Repeat(`\n`, 21) + "\n": 5, "0 - " + strings.Repeat("a", 20) + `\x61` + "\n": 5,
	} {
		checkWrong(t, s, 1, col)
		checkWrong(t, "# none\n\n"+s, 3, col)
		checkWrong(t, "0 - right\n"+s, 2, col)
		if strings.HasSuffix(s, "\n") {
			checkWrong(t, s+"0 - right\n", 1, col)
			checkWrong(t, s+"1 i\n", 1, col)
			checkWrong(t, s+"not ended", 1, col)
		}
	}
}

func TestReadDictTellsTheFirst(t *testing.T) {
	long := strings.Repeat("a", 21)
	for s, want := range map[string][2]int64{
		"5 q \\q":                   {1, 7}, // not ended, ahead of the number
		"5 q \\q\n":                 {1, 1}, // the number, ahead of the flag and the text
		"5 i\n":                     {1, 1}, // the number, ahead of the missing blank
		"5\n":                       {1, 1},
		"1 q \\q\n":                 {1, 3}, // the flag, ahead of the text
		"1 q \n":                    {1, 3},
		"1 q " + long + "\n":        {1, 3},
		"1 i " + long + "\\q\n":     {1, 26}, // what can not be Unescaped, ahead of the length
		"1 i " + long + " \\q\n":    {1, 26}, // the first of two
		"1 i \\q" + long + "\n":     {1, 5},
		"0 - a\n5 - a\n1 q a\n":     {2, 1}, // the first of two lines
		"0 - a\n1 q a\n5 - a\n1":    {2, 3},
		"0 - a\n\n# \n1 - \n5 - \n": {4, 5},
	} {
		checkWrong(t, s, want[0], want[1])
	}
}

func TestReadDictWithTooMany(t *testing.T) {
	eight := impl.DictText(manyPatterns(8))
	checkDict(t, eight, manyPatterns(8))
	checkDict(t, eight+"\n# more\n\n", manyPatterns(8))
	checkDict(t, "#\n\n"+eight, manyPatterns(8))
	checkWrong(t, eight+"0 - a\n", 9, 1)
	checkWrong(t, eight+"\n#\n0 - a\n", 11, 1)
	checkWrong(t, eight+"0 - a\n5 - a\n", 9, 1)
	checkWrong(t, eight+eight, 9, 1)
	// each other thing that is wrong with the ninth is told ahead of there being eight
	checkWrong(t, eight+"0 - a", 9, 6)
	checkWrong(t, eight+"5 - a\n", 9, 1)
	checkWrong(t, eight+"0 q a\n", 9, 3)
	checkWrong(t, eight+"0 - a\\q\n", 9, 6)
	checkWrong(t, eight+"0 - \n", 9, 5)
	checkWrong(t, eight+"#", 9, 2)
}

var (
	saysNothing = regexp.MustCompile(`^(#|$)`)
	number      = regexp.MustCompile(`^[0-4] `)
	flag        = regexp.MustCompile(`^(i|-) `)
	escapes     = regexp.MustCompile(`^(?:[!-\[\]-~]|\\\\|\\n|\\x[0-9a-f]{2})*`)
)

// wantUnescaped reads what is written as it has to be.
func wantUnescaped(e string) string {
	text, err := strconv.Unquote(`"` + strings.ReplaceAll(e, `"`, `\"`) + `"`)
	if err != nil {
		panic(err)
	}
	return text
}

// wantRead reads with regular expressions what ReadDict reads byte by byte.
func wantRead(s string) ([]impl.Pattern, int64, int64) {
	var d []impl.Pattern
	lines := strings.SplitAfter(s, "\n")
	for i, l := range lines {
		n := int64(i + 1)
		if l == "" {
			break
		}
		l, ended := strings.CutSuffix(l, "\n")
		switch {
		case !ended:
			return nil, n, int64(len(l)) + 1
		case saysNothing.MatchString(l):
			continue
		case !number.MatchString(l):
			return nil, n, 1
		case !flag.MatchString(l[2:]):
			return nil, n, 3
		}
		e := escapes.FindString(l[4:])
		if e != l[4:] {
			return nil, n, int64(5 + len(e))
		}
		text := wantUnescaped(e)
		if text == "" || len(text) > 20 {
			return nil, n, 5
		}
		if len(d) == 8 {
			return nil, n, 1
		}
		d = append(d, impl.Pattern{Text: text, K: int64(l[0] - '0'), Fold: l[2] == 'i'})
	}
	return d, 0, 0
}

func checkRead(t *testing.T, s string) {
	t.Helper()
	want, line, col := wantRead(s)
	if line == 0 {
		checkDict(t, s, want)
	} else {
		checkWrong(t, s, line, col)
	}
}

// TestReadDictOfEachShortText goes through all texts of at most four of the
// bytes that a dictionary is made of, alone and behind what begins one.
func TestReadDictOfEachShortText(t *testing.T) {
	parts := "4 i-\n#\\nx5"
	texts := []string{""}
	for from := 0; len(texts[from]) < 4; from++ {
		for i := range len(parts) {
			texts = append(texts, texts[from]+parts[i:i+1])
		}
	}
	for _, s := range texts {
		for _, ahead := range []string{"", "0 - ", "4 i \\x5", "1 - a\n"} {
			checkRead(t, ahead+s)
			checkRead(t, ahead+s+"\n")
		}
	}
}

// TestReadDictOfEachChangedText changes each byte of a right text to each other.
func TestReadDictOfEachChangedText(t *testing.T) {
	right := "# two\n\n4 i a\\x41\\\\\n0 - \\n~\n"
	checkRead(t, right)
	for at := range len(right) {
		checkRead(t, right[:at])
		checkRead(t, right[:at]+right[at+1:])
		for b := range 256 {
			changed := []byte(right)
			changed[at] = byte(b)
			checkRead(t, string(changed))
		}
	}
}

func TestDictionariesAreOnlyRead(t *testing.T) {
	room := append(manyPatterns(8), impl.Pattern{Text: "behind", K: 77})
	before := slices.Clone(room)
	for n := range 9 {
		first := impl.DictText(room[:n])
		if impl.DictText(room[:n]) != first || !impl.DictOk(room[:n]) || !slices.Equal(room, before) {
			t.Errorf("DictText writes into its argument, or differs, at %d", n)
		}
	}
}

func TestReadPatternsAreNewMemory(t *testing.T) {
	from := bytes.Repeat([]byte("0 - abcdefgh\n"), 8)
	s := unsafe.String(&from[0], len(from))
	d, _, _ := impl.ReadDict(s)
	again, _, _ := impl.ReadDict(s)
	folded, escaped := impl.Folded(s), impl.Escaped(s[4:12])
	text, ok := impl.Unescaped(s[4:12])
	clear(from)
	if len(d) != 8 || !slices.Equal(d, again) {
		t.Errorf("%+v and %+v", d, again)
	}
	for _, p := range append(d, again...) {
		if p.Text != "abcdefgh" {
			t.Errorf("a pattern shares what was read: %q", p.Text)
		}
	}
	if folded != strings.Repeat("0 - abcdefgh\n", 8) || escaped != "abcdefgh" || text != "abcdefgh" || !ok {
		t.Errorf("an answer shares its argument: %q %q %q", folded, escaped, text)
	}
	d[0].Text = "changed"
	if again[0].Text != "abcdefgh" {
		t.Error("two answers share their patterns")
	}
}
