package tests

import (
	"math"
	"math/rand/v2"
	"strings"
	"testing"

	"loop.example/g00568/impl"
)

// wantLetter says the last letter of an alignment as the document does.
func wantLetter(a string, b string, fold bool) string {
	dist := impl.Distance(a, b, fold)
	if a != "" && b != "" {
		lessA, lessB := a[:len(a)-1], b[:len(b)-1]
		both := impl.Distance(lessA, lessB, fold)
		if impl.Alike(a[len(a)-1:], b[len(b)-1:], fold) && both == dist {
			return "="
		}
		if both == dist-1 {
			return "x"
		}
	}
	if a != "" && impl.Distance(a[:len(a)-1], b, fold) == dist-1 {
		return "-"
	}
	return "+"
}

func wantAlign(a string, b string, fold bool) string {
	ops := ""
	for a != "" || b != "" {
		letter := wantLetter(a, b, fold)
		ops = letter + ops
		if letter != "+" {
			a = a[:len(a)-1]
		}
		if letter != "-" {
			b = b[:len(b)-1]
		}
	}
	return ops
}

// wantAlignOk takes the letters from the last one back. It asks nothing of how
// long the texts are.
func wantAlignOk(a string, b string, fold bool, ops string) bool {
	if ops == "" {
		return a == "" && b == ""
	}
	endA, endB, left := len(a)-1, len(b)-1, ops[:len(ops)-1]
	switch last := ops[len(ops)-1]; {
	case last == '-':
		return a != "" && wantAlignOk(a[:endA], b, fold, left)
	case last == '+':
		return b != "" && wantAlignOk(a, b[:endB], fold, left)
	case a == "" || b == "" || last != '=' && last != 'x':
		return false
	default:
		same := impl.Alike(a[endA:], b[endB:], fold)
		return same == (last == '=') && wantAlignOk(a[:endA], b[:endB], fold, left)
	}
}

// faultsOf counts all letters but =.
func faultsOf(ops string) int64 {
	return int64(len(ops) - strings.Count(ops, "="))
}

// checkAlign also looks whether there are as many faults as the texts differ in.
func checkAlign(t *testing.T, a string, b string, fold bool, want string) {
	t.Helper()
	got, ok := impl.AlignOf(a, b, fold)
	if got != want || !ok {
		t.Errorf("AlignOf(%q, %q, %v) = %q, %v, want %q", a, b, fold, got, ok, want)
	}
	if faultsOf(got) != impl.Distance(a, b, fold) || !impl.AlignOk(a, b, fold, got) {
		t.Errorf("AlignOf(%q, %q, %v) = %q does not make the one of the other", a, b, fold, got)
	}
}

func checkAlignOk(t *testing.T, a string, b string, fold bool, ops string, want bool) {
	t.Helper()
	if impl.AlignOk(a, b, fold, ops) != want {
		t.Errorf("AlignOk(%q, %q, %v, %q) is not %v", a, b, fold, ops, want)
	}
}

func checkNoAlign(t *testing.T, a string, b string, fold bool) {
	t.Helper()
	if got, ok := impl.AlignOf(a, b, fold); got != "" || ok {
		t.Errorf("AlignOf of %d and %d bytes = %q, %v", len(a), len(b), got, ok)
	}
}

func TestAlignOf(t *testing.T) {
	for _, c := range []struct{ a, b, asItIs, folded string }{
		{"", "", "", ""},
		{"", "a", "+", "+"},
		{"", "abc", "+++", "+++"},
		{"a", "", "-", "-"},
		{"abc", "", "---", "---"},
		{"abc", "abc", "===", "==="},
		{"abc", "abd", "==x", "==x"},
		{"abc", "ac", "=-=", "=-="},
		{"ac", "abc", "=+=", "=+="},
		{"abc", "bc", "-==", "-=="},
		{"abc", "ab", "==-", "==-"},
		{"abc", "xabc", "+===", "+==="},
		{"abc", "abcx", "===+", "===+"},
		{"kitten", "sitting", "x===x=+", "x===x=+"},
		{"AB", "ab", "xx", "=="},
		{"aXb", "Axb", "xx=", "==="},
		{"aBC", "bc", "-xx", "-=="},
		{"[", "{", "x", "x"},
		{"@", "`", "x", "x"},
		{"\xc1", "\xe1", "x", "x"},
		{"\x00\xff", "\xff", "-=", "-="},
		{"\u00e4", "\u00c4", "=x", "=x"},
	} {
		checkAlign(t, c.a, c.b, false, c.asItIs)
		checkAlign(t, c.a, c.b, true, c.folded)
	}
}

// TestAlignOfTakesTheFirst: where more than one letter would do, = goes ahead of
// x, that of -, that of +, from the texts' ends back.
func TestAlignOfTakesTheFirst(t *testing.T) {
	for _, c := range [][3]string{
		{"ab", "ba", "xx"},        // neither -=+ nor +=-
		{"abc", "bca", "-==+"},    // xxx is one more
		{"bca", "abc", "+==-"},    // so here
		{"aa", "a", "-="},         // not =-
		{"a", "aa", "+="},         // not =+
		{"aab", "ab", "-=="},      // not =-=
		{"abb", "ab", "=-="},      // not ==-
		{"ab", "abb", "=+="},      // not ==+
		{"aba", "bab", "+==-"},    // not -==+
		{"bab", "aba", "+==-"},    // nor here
		{"ab", "c", "-x"},         // not x-
		{"c", "ab", "+x"},         // not x+
		{"abcd", "xy", "--xx"},    // not xx--
		{"xy", "abcd", "++xx"},    // not xx++
		{"abab", "baba", "+===-"}, // not -===+
	} {
		checkAlign(t, c[0], c[1], false, c[2])
		checkAlign(t, c[0], c[1], true, c[2])
	}
}

func TestAlignOfEachShortText(t *testing.T) {
	for _, c := range []struct {
		parts string
		most  int
	}{{"ab", 4}, {"aAb", 3}} {
		texts := textsOf(c.parts, c.most)
		for _, a := range texts {
			for _, b := range texts {
				checkAlign(t, a, b, false, wantAlign(a, b, false))
				checkAlign(t, a, b, true, wantAlign(a, b, true))
			}
		}
	}
}

func TestAlignOfSomeTexts(t *testing.T) {
	r := rand.New(rand.NewPCG(14, 1))
	for range 250 {
		fold := r.IntN(2) == 0
		a, b := someText(r, "abAB", r.IntN(31)), someText(r, "abAB", r.IntN(31))
		checkAlign(t, a, b, fold, wantAlign(a, b, fold))
		changed := someText(r, "abAB", r.IntN(3)) + a[r.IntN(len(a)+1):] + someText(r, "abc", r.IntN(3))
		checkAlign(t, a, changed, fold, wantAlign(a, changed, fold))
	}
}

// TestNoAlignmentHasFewerFaults goes through all that can be written with the
// four letters and one more.
func TestNoAlignmentHasFewerFaults(t *testing.T) {
	all := textsOf("=x-+?", 5)
	texts := textsOf("aAb", 2)
	for _, fold := range []bool{false, true} {
		for _, a := range texts {
			for _, b := range texts {
				least, right := impl.Distance(a, b, fold), false
				for _, ops := range all {
					want := wantAlignOk(a, b, fold, ops)
					checkAlignOk(t, a, b, fold, ops, want)
					if want && faultsOf(ops) < least {
						t.Errorf("%q makes %q of %q, which differ in %d", ops, b, a, least)
					}
					right = right || want && faultsOf(ops) == least
				}
				if !right {
					t.Errorf("no alignment of %q and %q has %d faults", a, b, least)
				}
			}
		}
	}
}

func TestAlignOk(t *testing.T) {
	for _, c := range []struct {
		a, b, ops      string
		asItIs, folded bool
	}{
		{"", "", "", true, true},
		{"a", "a", "=", true, true},
		{"a", "a", "-+", true, true},
		{"a", "a", "+-", true, true},
		{"a", "b", "x", true, true},
		{"a", "A", "=", false, true},
		{"a", "A", "x", true, false},
		{"[", "{", "=", false, false},
		{"[", "{", "x", true, true},
		{"\xc1", "\xe1", "=", false, false},
		{"ab", "ba", "-=+", true, true},
		{"ab", "ba", "+=-", true, true},
		{"ab", "ba", "--++", true, true},
		{"ab", "ba", "==", false, false}, // = at unlike bytes
		{"ab", "ab", "=x", false, false}, // x at alike ones
		{"ab", "ab", "x=", false, false},
		{"ab", "ab", "", false, false}, // bytes left over of both
		{"ab", "ab", "=", false, false},
		{"ab", "a", "=", false, false}, // of a
		{"a", "", "", false, false},
		{"a", "ab", "=", false, false}, // of b
		{"", "a", "", false, false},
		{"a", "a", "==", false, false}, // letters left over
		{"a", "b", "xx", false, false},
		{"a", "a", "=-", false, false},
		{"a", "a", "=+", false, false},
		{"", "", "=", false, false},
		{"", "", "x", false, false},
		{"", "", "-", false, false},
		{"", "", "+", false, false},
		{"", "a", "=", false, false},
		{"", "a", "x", false, false},
		{"", "a", "-", false, false},
		{"a", "", "=", false, false},
		{"a", "", "x", false, false},
		{"a", "", "+", false, false},
		{"a", "b", "X", false, false}, // letters of another kind
		{"a", "a", "=\n", false, false},
		{"a", "a", " =", false, false},
		{"a", "a", "?=", false, false},
		{"a", "a", "=\x00", false, false},
		{"ab", "ab", "= =", false, false},
	} {
		checkAlignOk(t, c.a, c.b, false, c.ops, c.asItIs)
		checkAlignOk(t, c.a, c.b, true, c.ops, c.folded)
	}
}

func TestAlignOkOfEachLetter(t *testing.T) {
	for _, c := range [][3]string{{"a", "a", "="}, {"a", "b", "x"}, {"a", "", "-"}, {"", "a", "+"}, {"", "", ""}} {
		for b := range 256 {
			letter := string([]byte{byte(b)})
			checkAlignOk(t, c[0], c[1], false, letter, letter == c[2])
			checkAlignOk(t, c[0], c[1], true, letter, letter == c[2])
			checkAlignOk(t, "ab"+c[0]+"c", "ab"+c[1]+"c", false, "=="+letter+"=", letter == c[2])
			checkAlignOk(t, c[0], c[1], false, c[2]+letter, false)
		}
	}
}

// TestAlignOkOfEachPairOfBytes: = takes just the bytes that are alike, x just
// the others.
func TestAlignOkOfEachPairOfBytes(t *testing.T) {
	for x := range int64(256) {
		for y := range int64(256) {
			a, b := string([]byte{byte(x)}), string([]byte{byte(y)})
			checkAlignOk(t, a, b, false, "=", x == y)
			checkAlignOk(t, a, b, false, "x", x != y)
			checkAlignOk(t, a, b, true, "=", wantFold(x) == wantFold(y))
			checkAlignOk(t, a, b, true, "x", wantFold(x) != wantFold(y))
		}
	}
}

func TestAlignmentsOfLongTexts(t *testing.T) {
	full := strings.Repeat("ab", 100)
	for _, c := range []struct{ a, b, want string }{
		{full, full, strings.Repeat("=", 200)},
		{full, "", strings.Repeat("-", 200)},
		{"", full, strings.Repeat("+", 200)},
		{full, strings.Repeat("c", 200), strings.Repeat("x", 200)},
		{full, full[1:], "-" + strings.Repeat("=", 199)},
		{full[1:], full, "+" + strings.Repeat("=", 199)},
		{full, full[1:] + "c", "-" + strings.Repeat("=", 199) + "+"},
		{"c" + full[1:], full[1:] + "d", "-" + strings.Repeat("=", 199) + "+"}, // more letters than MaxText
		{full, "c", strings.Repeat("-", 199) + "x"},
	} {
		checkAlign(t, c.a, c.b, false, c.want)
		checkAlign(t, c.a, c.b, true, c.want)
	}
	checkAlign(t, full, strings.ToUpper(full), false, strings.Repeat("x", 200))
	checkAlign(t, full, strings.ToUpper(full), true, strings.Repeat("=", 200))
	checkAlignOk(t, full, full, false, strings.Repeat("-", 200)+strings.Repeat("+", 200), true)
	checkAlignOk(t, full, full, false, strings.Repeat("-+", 200), true)
	checkAlignOk(t, full, full, false, strings.Repeat("-+", 200)+"+", false)
	checkAlignOk(t, full, full, false, strings.Repeat("-+", 199)+"-", false)
	r := rand.New(rand.NewPCG(14, 2))
	a, b := someText(r, "abc", 200), someText(r, "abc", 199)
	checkAlign(t, a, b, true, wantAlign(a, b, true))
}

func TestAlignmentsOfTooLongTexts(t *testing.T) {
	full := strings.Repeat("a", 200)
	for _, long := range []string{full + "a", strings.Repeat("a", 456)} {
		for _, fold := range []bool{false, true} {
			checkNoAlign(t, long, "", fold)
			checkNoAlign(t, "", long, fold)
			checkNoAlign(t, long, full, fold)
			checkNoAlign(t, full, long, fold)
			checkNoAlign(t, long, long, fold)
			checkAlignOk(t, long, "", fold, strings.Repeat("-", len(long)), false)
			checkAlignOk(t, "", long, fold, strings.Repeat("+", len(long)), false)
			checkAlignOk(t, long, full, fold, strings.Repeat("=", 200)+strings.Repeat("-", len(long)-200), false)
			checkAlignOk(t, full, long, fold, strings.Repeat("=", 200)+strings.Repeat("+", len(long)-200), false)
			checkAlignOk(t, long, long, fold, strings.Repeat("=", len(long)), false)
			checkAlignOk(t, long, long, fold, "", false)
		}
	}
}

// wantStart goes from the shortest piece to the longest.
func wantStart(p impl.Pattern, text string, end int) (int64, int64) {
	least := nearest(p.Text, text, end, p.Fold)
	start := end
	for impl.Distance(p.Text, text[start:end], p.Fold) != least {
		start--
	}
	return int64(start), least
}

func checkStart(t *testing.T, p impl.Pattern, text string, end int64, start int64, dist int64) {
	t.Helper()
	if gotStart, gotDist := impl.StartOf(p, text, end); gotStart != start || gotDist != dist {
		t.Errorf("StartOf(%+v, %q, %d) = %d, %d, want %d, %d", p, text, end, gotStart, gotDist, start, dist)
	}
}

func TestStartOf(t *testing.T) {
	p := impl.Pattern{Text: "abc"}
	folding := impl.Pattern{Text: "aBc", K: 4, Fold: true}
	for _, c := range []struct {
		p                impl.Pattern
		text             string
		end, start, dist int64
	}{
		{p, "", 0, 0, 3},
		{p, "abc", 0, 0, 3},
		{p, "abc", 1, 0, 2},
		{p, "abc", 2, 0, 1},
		{p, "abc", 3, 0, 0},
		{p, "xabc", 4, 1, 0},
		{p, "abcx", 4, 0, 1},
		{p, "abcabc", 6, 3, 0},
		{p, "abcabc", 3, 0, 0},
		{p, "xyz", 1, 1, 3}, // the empty piece
		{p, "xyz", 2, 2, 3},
		{p, "xyz", 3, 3, 3}, // xyz is as near
		{p, "aac", 3, 1, 1}, // aac is as near as ac
		{p, "xbc", 3, 1, 1}, // xbc is as near as bc
		{p, "xabcc", 5, 1, 1},
		{p, "aabbcc", 6, 5, 2}, // abbcc is as near as c
		{p, "ABC", 3, 3, 3},
		{p, "abC", 3, 0, 1},
		{folding, "xAbC", 4, 1, 0},
		{folding, "xAxC", 4, 1, 1},
		{folding, "xyz", 2, 2, 3},
		{impl.Pattern{Text: "a"}, "b", 1, 1, 1}, // neither is nearer
		{impl.Pattern{Text: "a"}, "a", 1, 0, 0},
		{impl.Pattern{Text: "[", Fold: true}, "{", 1, 1, 1},
		{impl.Pattern{Text: "\x00\xff", K: 1}, "\xff\x00\xff", 3, 1, 0},
	} {
		checkStart(t, c.p, c.text, c.end, c.start, c.dist)
	}
}

// TestStartOfEachShortText: by how much the nearest piece differs does not hang
// on how many faults there may be.
func TestStartOfEachShortText(t *testing.T) {
	texts := textsOf("aAb", 3)
	for _, want := range texts[1:] {
		for _, text := range append(texts, "aabbA", "bAbAbaB", "bbabbaabb") {
			for end := range len(text) + 1 {
				for _, fold := range []bool{false, true} {
					p := impl.Pattern{Text: want, K: int64((len(text) + end) % 5), Fold: fold}
					start, dist := wantStart(p, text, end)
					checkStart(t, p, text, int64(end), start, dist)
				}
			}
		}
	}
}

// TestStartsOfEnds: what ends where EndsOf tells begins where it differs in as
// much as told there.
func TestStartsOfEnds(t *testing.T) {
	r := rand.New(rand.NewPCG(14, 3))
	for range 60 {
		p := somePattern(r, "abAB", 1+r.IntN(20))
		for _, text := range textsFor(r, p)[:3] {
			for _, e := range impl.EndsOf(p, text) {
				start, dist := impl.StartOf(p, text, e.At)
				if dist != e.Dist || impl.Distance(p.Text, text[start:e.At], p.Fold) != dist {
					t.Errorf("StartOf(%+v, %q, %d) = %d, %d, want %d", p, text, e.At, start, dist, e.Dist)
				}
			}
		}
	}
}

func TestStartOfLongTexts(t *testing.T) {
	r := rand.New(rand.NewPCG(14, 4))
	p := impl.Pattern{Text: "abcabcabcabcabcabcab", K: 4, Fold: true}
	text := someText(r, "abcABC", 200)
	for _, end := range []int{0, 1, 19, 20, 21, 100, 199, 200} {
		start, dist := wantStart(p, text, end)
		checkStart(t, p, text, int64(end), start, dist)
	}
	full := strings.Repeat("x", 180) + p.Text
	checkStart(t, p, full, 200, 180, 0)
	checkStart(t, p, full, 180, 180, 20)
	checkStart(t, p, p.Text+strings.Repeat("x", 180), 20, 0, 0)
	for _, end := range []int64{0, 1, 200, 201} {
		checkStart(t, p, full+"x", end, 0, -1)
		checkStart(t, p, strings.Repeat("x", 456), end, 0, -1)
	}
}

func TestStartOfPlacesThatAreNotThere(t *testing.T) {
	p := impl.Pattern{Text: "abc", K: 4}
	for _, text := range []string{"", "a", "abc", strings.Repeat("abcd", 50)} {
		behind := int64(len(text)) + 1
		for _, end := range []int64{-1, -2, math.MinInt64, behind, behind + 1, math.MaxInt64, 1 << 32} {
			checkStart(t, p, text, end, 0, -1)
		}
	}
}

func TestStartOfPatternsThatAreNotRight(t *testing.T) {
	for _, p := range wrongPatterns() {
		for _, text := range []string{"", "abc", strings.Repeat("a", 200), strings.Repeat("a", 201)} {
			for _, end := range []int64{-1, 0, 3, int64(len(text))} {
				checkStart(t, p, text, end, 0, -1)
			}
		}
	}
}

// TestStartsLeaveOutWhatIsPutIn: a piece whose first byte is put in would be
// nearer without it.
func TestStartsLeaveOutWhatIsPutIn(t *testing.T) {
	r := rand.New(rand.NewPCG(14, 5))
	for range 200 {
		p := somePattern(r, "abAB", 1+r.IntN(20))
		text := someText(r, "abAB", r.IntN(40))
		end := r.IntN(len(text) + 1)
		start, dist := impl.StartOf(p, text, int64(end))
		ops, _ := impl.AlignOf(p.Text, text[start:end], p.Fold)
		if faultsOf(ops) != dist || strings.HasPrefix(ops, "+") {
			t.Errorf("from %d to %d of %q, %q is %q, which has not %d faults", start, end, text, p.Text, ops, dist)
		}
	}
}
