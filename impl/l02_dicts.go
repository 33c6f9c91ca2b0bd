package impl

import (
	"strconv"
	"strings"
)

const (
	MaxDict = 8
	MaxK    = 4
)

const hexDigits = "0123456789abcdef"

// A Pattern is a text that is looked for, with K faults at most, and with no
// regard to capitals when Fold is set.
type Pattern struct {
	Text string
	K    int64
	Fold bool
}

// broken is what the readers panic with: the place in what they read where
// they gave up. So no step of theirs has to hand a failure on.
type broken int

func patternTextOk(text string) bool {
	return len(text) >= 1 && len(text) <= MaxPat
}

// PatternOk tells whether the pattern's text and faults are within the limits.
func PatternOk(p Pattern) bool {
	return patternTextOk(p.Text) && p.K >= 0 && p.K <= MaxK
}

// DictOk tells whether there are at most MaxDict patterns, all of them right.
func DictOk(d []Pattern) bool {
	if len(d) > MaxDict {
		return false
	}
	for _, p := range d {
		if !PatternOk(p) {
			return false
		}
	}
	return true
}

func isPrintable(b byte) bool {
	return b >= 33 && b <= 126
}

// Escaped writes the text with printable bytes alone.
func Escaped(s string) string {
	var out []byte
	for i := range len(s) {
		b := s[i]
		switch {
		case b == '\\':
			out = append(out, '\\', '\\')
		case b == '\n':
			out = append(out, '\\', 'n')
		case !isPrintable(b):
			out = append(out, '\\', 'x', hexDigits[b>>4], hexDigits[b&15])
		default:
			out = append(out, b)
		}
	}
	return string(out)
}

// Unescaped reads what Escaped writes, and any byte as two digits; false when
// the text is not written so.
func Unescaped(s string) (text string, ok bool) {
	defer func() {
		if recover() != nil {
			text, ok = "", false
		}
	}()
	return unescapeFrom(s, 0), true
}

// unescapeFrom reads s from a place on. It counts places from the beginning
// of s even so, since these are the ones that ReadDict has to tell.
func unescapeFrom(s string, at int) string {
	var out []byte
	for at < len(s) {
		b, next := unescapeByte(s, at)
		out, at = append(out, b), next
	}
	return string(out)
}

// unescapeByte reads the byte that is written at a place, and gives the place
// behind it.
func unescapeByte(s string, at int) (byte, int) {
	rest := s[at:]
	switch {
	case strings.HasPrefix(rest, `\\`):
		return '\\', at + 2
	case strings.HasPrefix(rest, `\n`):
		return '\n', at + 2
	case strings.HasPrefix(rest, `\x`) && len(rest) >= 4:
		high := strings.IndexByte(hexDigits, rest[2])
		low := strings.IndexByte(hexDigits, rest[3])
		if high >= 0 && low >= 0 {
			return byte(high<<4 | low), at + 4
		}
	case rest[0] != '\\' && isPrintable(rest[0]):
		return rest[0], at + 1
	}
	panic(broken(at))
}

// DictText writes a line for each pattern; nothing when d is not right.
func DictText(d []Pattern) string {
	if !DictOk(d) {
		return ""
	}
	var out strings.Builder
	for _, p := range d {
		out.WriteString(patternLine(p))
	}
	return out.String()
}

func patternLine(p Pattern) string {
	flag := "-"
	if p.Fold {
		flag = "i"
	}
	return strconv.FormatInt(p.K, 10) + " " + flag + " " + Escaped(p.Text) + "\n"
}

// ReadDict reads what DictText writes; where it can not, it gives the line and
// the column of the first thing that is wrong, else 0 for both.
func ReadDict(s string) (d []Pattern, line int64, col int64) {
	defer func() {
		if stop := recover(); stop != nil {
			at, _ := stop.(broken)
			d, col = nil, int64(at)+1
		}
	}()
	for rest := s; rest != ""; {
		text, behind, ended := strings.Cut(rest, "\n")
		rest = behind
		line++
		if !ended {
			panic(broken(len(text)))
		}
		if text == "" || text[0] == '#' {
			continue
		}
		p := readPattern(text)
		if len(d) == MaxDict {
			panic(broken(0))
		}
		d = append(d, p)
	}
	return d, 0, 0
}

// readPattern reads one line, without its end.
func readPattern(line string) Pattern {
	number, flagAt := wordFrom(line, 0)
	k, ok := readDecimal(number)
	if !ok || k > MaxK {
		panic(broken(0))
	}
	flag, textAt := wordFrom(line, flagAt)
	if flag != "i" && flag != "-" {
		panic(broken(flagAt))
	}
	text := unescapeFrom(line, textAt)
	if !patternTextOk(text) {
		panic(broken(textAt))
	}
	return Pattern{Text: text, K: k, Fold: flag == "i"}
}

// wordFrom gives what stands from a place on ahead of the next blank, and the
// place behind that blank.
func wordFrom(line string, at int) (string, int) {
	word, _, found := strings.Cut(line[at:], " ")
	if !found {
		panic(broken(at))
	}
	return word, at + len(word) + 1
}

// readDecimal reads a number of at most nine digits without noughts ahead.
func readDecimal(s string) (int64, bool) {
	if s == "" || len(s) > 9 || len(s) > 1 && s[0] == '0' {
		return 0, false
	}
	var n int64
	for i := range len(s) {
		if s[i] < '0' || s[i] > '9' {
			return 0, false
		}
		n = n*10 + int64(s[i]-'0')
	}
	return n, true
}
