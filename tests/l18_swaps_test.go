package tests

import (
	"math"
	"math/rand/v2"
	"slices"
	"strings"
	"testing"

	"loop.example/g00568/impl"
)

// wantAlike tells whether two bytes are alike, by the table of letters.
func wantAlike(a byte, b byte, fold bool) bool {
	return a == b || fold && wantFold(int64(a)) == wantFold(int64(b))
}

func wantHamming(a string, b string, fold bool) int64 {
	if len(a) != len(b) {
		return -1
	}
	var unlike int64
	for i := range len(a) {
		if !wantAlike(a[i], b[i], fold) {
			unlike++
		}
	}
	return unlike
}

// swapped tells whether a and b begin with the same two bytes, changed for each
// other.
func swapped(a string, b string, fold bool) bool {
	return len(a) >= 2 && len(b) >= 2 && wantAlike(a[0], b[1], fold) && wantAlike(a[1], b[0], fold)
}

// wantSwap tries all first swaps: what stands ahead of one is made without any,
// what stands behind it in whatever way.
func wantSwap(a string, b string, fold bool) int64 {
	least := impl.Distance(a, b, fold)
	for i := range len(a) {
		for j := range len(b) {
			if swapped(a[i:], b[j:], fold) {
				least = min(least, impl.Distance(a[:i], b[:j], fold)+1+wantSwap(a[i+2:], b[j+2:], fold))
			}
		}
	}
	return least
}

// costs say what each way to change a text costs.
type costs struct {
	put, drop, turn, swap int64
}

// wantCost gives the least cost of making b of a, found from the ends of both on
// to their beginnings; a swap that costs 0 is none.
func wantCost(a string, b string, fold bool, c costs) int64 {
	least := make([][]int64, len(a)+1)
	for i := len(a); i >= 0; i-- {
		least[i] = make([]int64, len(b)+1)
		for j := len(b); j >= 0; j-- {
			ways := []int64{}
			if i < len(a) {
				ways = append(ways, least[i+1][j]+c.drop)
			}
			if j < len(b) {
				ways = append(ways, least[i][j+1]+c.put)
			}
			if i < len(a) && j < len(b) && wantAlike(a[i], b[j], fold) {
				ways = append(ways, least[i+1][j+1])
			} else if i < len(a) && j < len(b) {
				ways = append(ways, least[i+1][j+1]+c.turn)
			}
			if c.swap > 0 && swapped(a[i:], b[j:], fold) {
				ways = append(ways, least[i+2][j+2]+c.swap)
			}
			if len(ways) > 0 {
				least[i][j] = slices.Min(ways)
			}
		}
	}
	return least[0][0]
}

func checkHamming(t *testing.T, a string, b string, fold bool, want int64) {
	t.Helper()
	if got, back := impl.Hamming(a, b, fold), impl.Hamming(b, a, fold); got != want || back != want {
		t.Errorf("Hamming(%q, %q, %v) = %d and %d, want %d", a, b, fold, got, back, want)
	}
}

// checkSwap also looks at both texts backward, in which swaps are swaps, too.
func checkSwap(t *testing.T, a string, b string, fold bool, want int64) {
	t.Helper()
	if got, back := impl.SwapDist(a, b, fold), impl.SwapDist(b, a, fold); got != want || back != want {
		t.Errorf("SwapDist(%q, %q, %v) = %d and %d, want %d", a, b, fold, got, back, want)
	}
	if got := impl.SwapDist(backward(a), backward(b), fold); got != want {
		t.Errorf("SwapDist(%q, %q, %v), both read backward, = %d, want %d", a, b, fold, got, want)
	}
	if dist := impl.Distance(a, b, fold); want > dist || 2*want < dist {
		t.Errorf("SwapDist(%q, %q, %v) = %d, and the Distance %d", a, b, fold, want, dist)
	}
}

func backward(s string) string {
	out := []byte(s)
	slices.Reverse(out)
	return string(out)
}

// checkCost also looks at the way back, where what is put in is left out.
func checkCost(t *testing.T, a string, b string, c costs, want int64) {
	t.Helper()
	if got, back := impl.CostOf(a, b, c.put, c.drop, c.turn), impl.CostOf(b, a, c.drop, c.put, c.turn); got != want || back != want {
		t.Errorf("CostOf(%q, %q, %+v) = %d and, back, %d, want %d", a, b, c, got, back, want)
	}
}

func TestHamming(t *testing.T) {
	for _, c := range []struct {
		a, b           string
		asItIs, folded int64
	}{
		{"", "", 0, 0},
		{"", "a", -1, -1},
		{"abc", "ab", -1, -1},
		{"abc", "abc", 0, 0},
		{"abc", "abd", 1, 1},
		{"abc", "xbc", 1, 1},
		{"abc", "cab", 3, 3},
		{"aBc", "AbC", 3, 0},
		{"aBcx", "AbCy", 4, 1},
		{"[@", "{`", 2, 2},
		{"\xc1\xe1", "\xe1\xc1", 2, 2},
		{"\x00", "\xff", 1, 1},
		{"\x00", " ", 1, 1},
	} {
		checkHamming(t, c.a, c.b, false, c.asItIs)
		checkHamming(t, c.a, c.b, true, c.folded)
	}
	for _, a := range textsOf("aAb", 4) {
		for _, b := range textsOf("aAb", 4) {
			for _, fold := range []bool{false, true} {
				checkHamming(t, a, b, fold, wantHamming(a, b, fold))
			}
		}
	}
}

func TestHammingOfLongTexts(t *testing.T) {
	r := rand.New(rand.NewPCG(18, 1))
	full := strings.Repeat("ab", 100)
	for _, fold := range []bool{false, true} {
		checkHamming(t, full, full, fold, 0)
		checkHamming(t, full, strings.Repeat("ba", 100), fold, 200)
		checkHamming(t, full, full[:199]+"c", fold, 1)
		checkHamming(t, full, "c"+full[1:], fold, 1)
		for _, long := range []string{full + "a", full + full, strings.Repeat("a", 256), strings.Repeat("a", 456)} {
			checkHamming(t, long, long, fold, -1)
			checkHamming(t, long, full, fold, -1)
			checkHamming(t, long, "", fold, -1)
		}
		for range 50 {
			length := r.IntN(201)
			a, b := someText(r, allBytes(), length), someText(r, allBytes(), length)
			checkHamming(t, a, b, fold, wantHamming(a, b, fold))
			checkHamming(t, a, strings.ToUpper(b), fold, wantHamming(a, strings.ToUpper(b), fold))
		}
	}
	checkHamming(t, full, strings.ToUpper(full), false, 200)
	checkHamming(t, full, strings.ToUpper(full), true, 0)
}

func TestSwapDist(t *testing.T) {
	for _, c := range []struct {
		a, b           string
		asItIs, folded int64
	}{
		{"", "", 0, 0},
		{"", "ab", 2, 2},
		{"a", "b", 1, 1},
		{"ab", "ba", 1, 1}, // both the beginning and the end
		{"abcd", "bacd", 1, 1},
		{"abcd", "abdc", 1, 1},
		{"abcd", "acbd", 1, 1},
		{"abcd", "badc", 2, 2}, // two side by side
		{"abcdef", "badcfe", 3, 3},
		{"abcd", "dbca", 2, 2}, // not side by side
		{"abc", "cba", 2, 2},
		{"abc", "bca", 2, 2}, // b and a, then a and c: a would be touched again
		{"abcd", "bcda", 2, 2},
		{"ca", "abc", 3, 3},  // b between the two
		{"ab", "bxa", 3, 3},  // x between the two
		{"axb", "ba", 3, 3},  // x was between the two
		{"ab", "xa", 2, 2},   // one of the two changed
		{"abx", "bay", 2, 2}, // one beside the two changed
		{"xab", "ba", 2, 2},  // one beside the two left out
		{"ab", "bay", 2, 2},
		{"abab", "baba", 2, 2},
		{"aabb", "bbaa", 3, 3},
		{"aa", "aa", 0, 0},
		{"AB", "ba", 2, 1},
		{"aB", "bA", 2, 1},
		{"aB", "BA", 2, 1},
		{"aB", "Ba", 1, 1},
		{"[a", "A[", 2, 1},
		{"[@", "`{", 2, 2},
		{"\xc1\xe1", "\xe1\xc1", 1, 1},
		{"\x00\xff", "\xff\x00", 1, 1},
	} {
		checkSwap(t, c.a, c.b, false, c.asItIs)
		checkSwap(t, c.a, c.b, true, c.folded)
	}
}

func TestSwapDistOfEachShortText(t *testing.T) {
	for _, parts := range []string{"abc", "aAb"} {
		texts := textsOf(parts, 4)
		for _, a := range texts {
			for _, b := range texts {
				for _, fold := range []bool{false, true} {
					checkSwap(t, a, b, fold, wantSwap(a, b, fold))
				}
			}
		}
	}
}

// withSwaps gives the text with so many pairs swapped, no byte twice.
func withSwaps(r *rand.Rand, s string, pairs int) string {
	out := []byte(s)
	for _, pair := range r.Perm(len(s) / 2)[:pairs] {
		out[2*pair], out[2*pair+1] = out[2*pair+1], out[2*pair]
	}
	return string(out)
}

func TestSwapDistOfSomeTexts(t *testing.T) {
	r := rand.New(rand.NewPCG(18, 2))
	for range 100 {
		a, fold := someText(r, "abcAB", r.IntN(201)), r.IntN(2) == 0
		pairs := r.IntN(len(a)/2 + 1)
		near := withSwaps(r, a, pairs)
		if dist := impl.SwapDist(a, near, fold); dist > int64(pairs) {
			t.Errorf("SwapDist(%q, %q, %v) = %d, and %d are swapped", a, near, fold, dist, pairs)
		}
		for _, b := range []string{near, faulty(r, near, r.IntN(9)), someText(r, "abcAB", r.IntN(201))} {
			checkSwap(t, a, b, fold, wantCost(a, b, fold, costs{1, 1, 1, 1}))
			checkSwap(t, a, b, true, impl.SwapDist(impl.Folded(a), impl.Folded(b), false))
		}
	}
}

func TestSwapDistOfLongTexts(t *testing.T) {
	full := strings.Repeat("ab", 100)
	for _, fold := range []bool{false, true} {
		checkSwap(t, full, full, fold, 0)
		checkSwap(t, full, "", fold, 200)
		checkSwap(t, full, "ba"+full[2:], fold, 1)
		checkSwap(t, full, full[:198]+"ba", fold, 1)
		checkSwap(t, full, strings.Repeat("ba", 100), fold, 2)
		checkSwap(t, strings.Repeat("abcd", 50), strings.Repeat("badc", 50), fold, 100)
		checkSwap(t, full, strings.Repeat("c", 200), fold, 200)
		for _, long := range []string{full + "a", full + full, strings.Repeat("a", 256)} {
			for _, other := range []string{"", "a", full, long} {
				if got, back := impl.SwapDist(long, other, fold), impl.SwapDist(other, long, fold); got != -1 || back != -1 {
					t.Errorf("SwapDist of %d and %d bytes = %d and %d", len(long), len(other), got, back)
				}
			}
		}
	}
	checkSwap(t, full, strings.ToUpper(full), false, 200)
	checkSwap(t, full, strings.ToUpper(full), true, 0)
	checkSwap(t, full, "BA"+strings.ToUpper(full[2:]), true, 1)
}

func wantSwapEnds(p impl.Pattern, text string) []impl.End {
	var ends []impl.End
	for end := range len(text) + 1 {
		least := int64(len(p.Text))
		for from := range end {
			least = min(least, impl.SwapDist(p.Text, text[from:end], p.Fold))
		}
		if least <= p.K {
			ends = append(ends, impl.End{At: int64(end), Dist: least})
		}
	}
	return ends
}

// checkSwapEnds also looks whether each end of EndsOf is there, no farther.
func checkSwapEnds(t *testing.T, p impl.Pattern, text string, want []impl.End) {
	t.Helper()
	got := impl.SwapEnds(p, text)
	if !slices.Equal(got, want) {
		t.Errorf("SwapEnds(%+v, %q) = %+v, want %+v", p, text, got, want)
	}
	for _, e := range impl.EndsOf(p, text) {
		if !slices.ContainsFunc(got, func(x impl.End) bool { return x.At == e.At && x.Dist <= e.Dist }) {
			t.Errorf("SwapEnds(%+v, %q) = %+v, EndsOf has %+v", p, text, got, e)
		}
	}
}

func TestSwapEnds(t *testing.T) {
	for _, c := range []struct {
		p    impl.Pattern
		text string
		want []impl.End
	}{
		{impl.Pattern{Text: "abc", K: 1}, "xacbz", []impl.End{{At: 3, Dist: 1}, {At: 4, Dist: 1}}},
		{impl.Pattern{Text: "abc", K: 1}, "bac", []impl.End{{At: 3, Dist: 1}}}, // at the beginning
		{impl.Pattern{Text: "abc", K: 1}, "acb", []impl.End{{At: 2, Dist: 1}, {At: 3, Dist: 1}}},
		{impl.Pattern{Text: "abcd", K: 1}, "acbd", []impl.End{{At: 4, Dist: 1}}},
		{impl.Pattern{Text: "abcd", K: 1}, "badc", nil},
		{impl.Pattern{Text: "abcd", K: 2}, "badc", []impl.End{{At: 3, Dist: 2}, {At: 4, Dist: 2}}},
		{impl.Pattern{Text: "abcd"}, "acbdabdcabcd", []impl.End{{At: 12}}}, // no faults, no swaps
		{impl.Pattern{Text: "abc", K: 1}, "ACB", nil},
		{impl.Pattern{Text: "abc", K: 1, Fold: true}, "ACB", []impl.End{{At: 2, Dist: 1}, {At: 3, Dist: 1}}},
		{impl.Pattern{Text: "aBc", K: 1, Fold: true}, "AcbZ", []impl.End{{At: 2, Dist: 1}, {At: 3, Dist: 1}}},
		{impl.Pattern{Text: "aabb", K: 1}, "abab", []impl.End{{At: 4, Dist: 1}}},
		{impl.Pattern{Text: "ab", K: 1}, "ba", []impl.End{{At: 1, Dist: 1}, {At: 2, Dist: 1}}},
		{impl.Pattern{Text: "ab", K: 2}, "ba", []impl.End{{Dist: 2}, {At: 1, Dist: 1}, {At: 2, Dist: 1}}},
		{impl.Pattern{Text: "ab", K: 2}, "", []impl.End{{Dist: 2}}},
		{impl.Pattern{Text: "ab", K: 1}, "", nil},
		{impl.Pattern{Text: "a", K: 4}, "xa", []impl.End{{Dist: 1}, {At: 1, Dist: 1}, {At: 2}}},
		{impl.Pattern{Text: "abcd", K: 4}, "dc", []impl.End{{Dist: 4}, {At: 1, Dist: 3}, {At: 2, Dist: 3}}},
		{impl.Pattern{Text: "x\x00\xffy", K: 1}, "x\xff\x00y", []impl.End{{At: 4, Dist: 1}}},
		{impl.Pattern{Text: "x[{y", K: 1, Fold: true}, "x[[y", []impl.End{{At: 4, Dist: 1}}},
	} {
		checkSwapEnds(t, c.p, c.text, c.want)
	}
}

func TestSwapEndsOfEachShortText(t *testing.T) {
	for _, text := range textsOf("aAb", 5) {
		for _, want := range textsOf("ab", 4)[1:] {
			for _, k := range []int64{0, 1, 2, int64(len(want))} {
				for _, fold := range []bool{false, true} {
					p := impl.Pattern{Text: want, K: k, Fold: fold}
					checkSwapEnds(t, p, text, wantSwapEnds(p, text))
				}
			}
		}
	}
}

func TestSwapEndsOfSomeTexts(t *testing.T) {
	r := rand.New(rand.NewPCG(18, 3))
	for range 60 {
		p := somePattern(r, "abcAB", 1+r.IntN(20))
		near := withSwaps(r, p.Text, r.IntN(min(len(p.Text)/2, 4)+1))
		for _, text := range []string{near, near + p.Text, "xy" + near + faulty(r, near, 2) + near, someText(r, "abcAB", r.IntN(60))} {
			checkSwapEnds(t, p, text, wantSwapEnds(p, text))
		}
	}
}

func TestSwapEndsAtItsLimits(t *testing.T) {
	full := strings.Repeat("acbd", 50)
	for _, p := range []impl.Pattern{{Text: "abcd", K: 1}, {Text: "ABCD", K: 1, Fold: true}, {Text: "a", K: 1}, {Text: "abcdabcdabcdabcdabcd", K: 4}, {Text: "acbd"}} {
		checkSwapEnds(t, p, full, wantSwapEnds(p, full))
		if ends := impl.SwapEnds(p, full); p.Text != "abcdabcdabcdabcdabcd" && ends[len(ends)-1].At != 200 {
			t.Errorf("SwapEnds(%+v) of 200 bytes = %+v", p, ends)
		}
		for _, long := range []string{full + "a", full + full, strings.Repeat("abcd", 64)} {
			checkNoSwapEnds(t, p, long)
		}
	}
	for _, p := range wrongPatterns() {
		for _, text := range []string{"", "a", "abc", "acb", full, full + "a"} {
			checkNoSwapEnds(t, p, text)
		}
	}
}

func checkNoSwapEnds(t *testing.T, p impl.Pattern, text string) {
	t.Helper()
	if got := impl.SwapEnds(p, text); len(got) != 0 {
		t.Errorf("SwapEnds(%+v) of %d bytes = %+v", p, len(text), got)
	}
}

func TestSwapEndsAreNewMemory(t *testing.T) {
	p := impl.Pattern{Text: "abc", K: 1}
	ends, more := impl.SwapEnds(p, "xacbz"), impl.SwapEnds(p, "xacbz")
	clear(ends)
	if !slices.Equal(more, []impl.End{{At: 3, Dist: 1}, {At: 4, Dist: 1}}) {
		t.Errorf("two lists of ends share their places: %+v", more)
	}
}

func TestCostOf(t *testing.T) {
	if impl.MaxCost != 1000 {
		t.Errorf("MaxCost is %d", impl.MaxCost)
	}
	for _, c := range []struct {
		a, b  string
		costs costs
		want  int64
	}{
		{"", "", costs{1, 2, 3, 0}, 0},
		{"", "ab", costs{5, 1, 1, 0}, 10},
		{"ab", "", costs{5, 1, 1, 0}, 2},
		{"abc", "abc", costs{5, 6, 7, 0}, 0},
		{"abc", "axc", costs{2, 3, 4, 0}, 4},
		{"abc", "axc", costs{2, 3, 5, 0}, 5},
		{"abc", "axc", costs{2, 3, 6, 0}, 5}, // left out and put in
		{"abc", "axc", costs{1, 2, 9, 0}, 3},
		{"abc", "axc", costs{0, 2, 9, 0}, 2},
		{"abc", "axc", costs{9, 9, 0, 0}, 0},
		{"abc", "axxc", costs{9, 8, 2, 0}, 11},
		{"axxc", "abc", costs{9, 8, 2, 0}, 10},
		{"ab", "ba", costs{3, 4, 5, 0}, 7},
		{"ab", "ba", costs{3, 4, 3, 0}, 6},
		{"abc", "ABC", costs{10, 10, 1, 0}, 3}, // no folding
		{"abcdef", "fabcde", costs{1, 1, 1000, 0}, 2},
		{"a", "b", costs{1000, 1000, 1000, 0}, 1000},
		{"a", "b", costs{500, 500, 1000, 0}, 1000},
		{"a", "b", costs{500, 499, 1000, 0}, 999},
		{"\x00\xff", "\xff\x00", costs{1, 1, 5, 0}, 2},
	} {
		checkCost(t, c.a, c.b, c.costs, c.want)
	}
}

func TestCostOfEachShortText(t *testing.T) {
	texts := textsOf("abc", 3)
	for _, a := range texts {
		for _, b := range texts {
			for _, c := range []costs{{1, 1, 1, 0}, {0, 0, 0, 0}, {0, 1, 1, 0}, {1, 0, 1, 0}, {1, 1, 0, 0}, {1, 2, 4, 0}, {2, 1, 4, 0}, {5, 3, 7, 0}, {1, 10, 100, 0}, {100, 10, 1, 0}, {1000, 1000, 1000, 0}} {
				checkCost(t, a, b, c, wantCost(a, b, false, c))
			}
			checkCost(t, a, b, costs{1, 1, 1, 0}, impl.Distance(a, b, false))
			checkCost(t, a, b, costs{1000, 1000, 1000, 0}, 1000*impl.Distance(a, b, false))
			checkCost(t, a, b, costs{7, 7, 0, 0}, 7*int64(max(len(a), len(b))-min(len(a), len(b))))
		}
	}
}

func TestCostOfSomeTexts(t *testing.T) {
	r := rand.New(rand.NewPCG(18, 4))
	for range 100 {
		a := someText(r, "abcAB", r.IntN(201))
		for _, b := range []string{faulty(r, a, r.IntN(20)), someText(r, "abcAB", r.IntN(201))} {
			c := costs{put: int64(r.IntN(1001)), drop: int64(r.IntN(1001)), turn: int64(r.IntN(1001))}
			checkCost(t, a, b, c, wantCost(a, b, false, c))
			checkCost(t, a, b, costs{1, 1, 1, 0}, impl.Distance(a, b, false))
			checkCost(t, a, a, c, 0)
		}
	}
}

func TestCostOfLongTexts(t *testing.T) {
	full, other := strings.Repeat("ab", 100), strings.Repeat("c", 200)
	checkCost(t, full, full, costs{1000, 1000, 1000, 0}, 0)
	checkCost(t, full, "", costs{1, 1000, 1, 0}, 200000)
	checkCost(t, full, other, costs{1000, 1000, 1000, 0}, 200000)
	checkCost(t, full, other, costs{499, 500, 1000, 0}, 199800)
	checkCost(t, full, other, costs{0, 0, 1000, 0}, 0)
	for _, long := range []string{full + "a", full + full, strings.Repeat("a", 256)} {
		for _, text := range []string{"", "a", full, long} {
			checkCost(t, long, text, costs{1, 1, 1, 0}, -1)
			checkCost(t, text, long, costs{0, 0, 0, 0}, -1)
		}
	}
}

func TestCostsThatAreNotRight(t *testing.T) {
	for _, wrong := range []int64{-1, 1001, -1000, 1 << 32, 1<<32 + 1, 256 * 256, math.MaxInt64, math.MinInt64} {
		for _, right := range []int64{0, 1, 1000} {
			for _, text := range []string{"", "a", "ab", strings.Repeat("a", 200), strings.Repeat("a", 201)} {
				for _, c := range []costs{{wrong, right, right, 0}, {right, wrong, right, 0}, {right, right, wrong, 0}, {wrong, wrong, wrong, 0}} {
					checkCost(t, text, text, c, -1)
					checkCost(t, text, "b", c, -1)
				}
			}
		}
	}
}
