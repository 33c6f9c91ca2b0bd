package tests

import (
	"math"
	"math/rand/v2"
	"runtime"
	"slices"
	"strings"
	"testing"
	"time"
	"unsafe"

	"loop.example/g00568/impl"
)

// cloneDfa shares no list with d.
func cloneDfa(d impl.Dfa) impl.Dfa {
	d.Next, d.Dist = slices.Clone(d.Next), slices.Clone(d.Dist)
	for i, row := range d.Next {
		d.Next[i] = slices.Clone(row)
	}
	return d
}

func sameDfa(a impl.Dfa, b impl.Dfa) bool {
	return a.Classes == b.Classes && a.Fold == b.Fold && slices.EqualFunc(a.Next, b.Next, slices.Equal[[]int64]) && slices.Equal(a.Dist, b.Dist)
}

// wantClasses asks of each byte whether it has a class of its own.
func wantClasses(p impl.Pattern) string {
	var out []byte
	for b := range 256 {
		for _, x := range []byte(p.Text) {
			if p.Fold {
				x = byte(wantFold(int64(x)))
			}
			if int(x) == b && !slices.Contains(out, x) {
				out = append(out, x)
			}
		}
	}
	return string(out)
}

// cutOffAt gives the column's numbers, each one more than k at most, as a text.
func cutOffAt(col []int64, k int64) string {
	var out []byte
	for _, n := range col {
		out = append(out, byte(min(n, k+1)))
	}
	return string(out)
}

// wantDfa keeps the whole columns, and takes those for one that are alike up to
// K + 1.
func wantDfa(p impl.Pattern) (impl.Dfa, bool) {
	if !impl.PatternOk(p) {
		return impl.Dfa{}, false
	}
	d := impl.Dfa{Classes: wantClasses(p), Fold: p.Fold}
	letters := []byte(d.Classes)
	for b := int64(255); len(letters) == len(d.Classes); b-- {
		if wantMask(p.Text, p.Fold, b) == 0 {
			letters = append(letters, byte(b))
		}
	}
	cols := [][]int64{impl.FirstCol(p)}
	places := map[string]int64{cutOffAt(cols[0], p.K): 0}
	for at := 0; at < len(cols); at++ {
		var row []int64
		for _, b := range letters {
			col := wantNextCol(p, cols[at], b)
			place, met := places[cutOffAt(col, p.K)]
			if !met {
				place = int64(len(cols))
				places[cutOffAt(col, p.K)] = place
				cols = append(cols, col)
			}
			row = append(row, place)
		}
		if len(cols) > 300 {
			return impl.Dfa{}, false
		}
		d.Next = append(d.Next, row)
		d.Dist = append(d.Dist, min(cols[at][len(p.Text)], p.K+1))
	}
	return d, true
}

func checkDfa(t *testing.T, p impl.Pattern) (impl.Dfa, bool) {
	t.Helper()
	got, ok := impl.DfaOf(p)
	if want, wantOk := wantDfa(p); ok != wantOk || !sameDfa(got, want) {
		t.Fatalf("DfaOf(%+v) = %+v, %v, want %+v, %v", p, got, ok, want, wantOk)
	}
	if impl.DfaOk(got) != ok {
		t.Fatalf("DfaOk of DfaOf(%+v) is not %v", p, ok)
	}
	return got, ok
}

// wantDists are the columns' last numbers, K + 1 at most.
func wantDists(p impl.Pattern, text string) []int64 {
	col := impl.FirstCol(p)
	dists := []int64{min(col[len(p.Text)], p.K+1)}
	for i := range len(text) {
		col = impl.NextCol(p, col, int64(text[i]))
		dists = append(dists, min(col[len(p.Text)], p.K+1))
	}
	return dists
}

// checkTells runs the pattern's automaton, and its least one, over the texts.
func checkTells(t *testing.T, p impl.Pattern, texts ...string) {
	t.Helper()
	d, ok := checkDfa(t, p)
	if !ok {
		return
	}
	least := checkLeast(t, d)
	for _, text := range texts {
		want := wantDists(p, text)
		if got := impl.DfaRun(d, text); !slices.Equal(got, want) {
			t.Fatalf("the automaton of %+v tells %d of %q, want %d", p, got, text, want)
		}
		if got := impl.DfaRun(least, text); !slices.Equal(got, want) {
			t.Fatalf("the least automaton of %+v tells %d of %q, want %d", p, got, text, want)
		}
	}
}

// wantRun asks of each byte each class whether it is alike.
func wantRun(d impl.Dfa, text string) []int64 {
	at := int64(0)
	told := []int64{d.Dist[0]}
	for _, b := range []byte(text) {
		class := 0
		for class < len(d.Classes) {
			x := d.Classes[class]
			if x == b || d.Fold && wantFold(int64(x)) == wantFold(int64(b)) {
				break
			}
			class++
		}
		at = d.Next[at][class]
		told = append(told, d.Dist[at])
	}
	return told
}

func checkRun(t *testing.T, d impl.Dfa, text string) {
	t.Helper()
	if got, want := impl.DfaRun(d, text), wantRun(d, text); !slices.Equal(got, want) {
		t.Fatalf("DfaRun(%+v, %q) = %d, want %d", d, text, got, want)
	}
}

// tellsApart gives of each two states whether some classes, one behind the
// other, lead from them to states that tell something else.
func tellsApart(d impl.Dfa) [][]bool {
	apart := make([][]bool, len(d.Next))
	for a := range d.Next {
		for b := range d.Next {
			apart[a] = append(apart[a], d.Dist[a] != d.Dist[b])
		}
	}
	for again := true; again; {
		again = false
		for a := range d.Next {
			for b := range a {
				if apart[a][b] {
					continue
				}
				for class, to := range d.Next[a] {
					if apart[to][d.Next[b][class]] {
						apart[a][b], apart[b][a], again = true, true, true
						break
					}
				}
			}
		}
	}
	return apart
}

// wantLeast goes from state to state and takes those for one that are not told
// apart.
func wantLeast(d impl.Dfa) impl.Dfa {
	apart := tellsApart(d)
	met := []int64{0}
	least := impl.Dfa{Classes: d.Classes, Fold: d.Fold}
	for at := 0; at < len(met); at++ {
		var row []int64
		for _, to := range d.Next[met[at]] {
			place := slices.IndexFunc(met, func(s int64) bool { return !apart[s][to] })
			if place < 0 {
				place = len(met)
				met = append(met, to)
			}
			row = append(row, int64(place))
		}
		least.Next = append(least.Next, row)
		least.Dist = append(least.Dist, d.Dist[met[at]])
	}
	return least
}

// checkLeast looks for what is promised of the least automaton, too.
func checkLeast(t *testing.T, d impl.Dfa) impl.Dfa {
	t.Helper()
	got, ok := impl.Minimal(d)
	if want := wantLeast(d); !ok || !sameDfa(got, want) {
		t.Fatalf("Minimal(%+v) = %+v, %v, want %+v", d, got, ok, want)
	}
	if !impl.DfaOk(got) || len(got.Next) > len(d.Next) {
		t.Fatalf("Minimal(%+v) = %+v, which has more states or is not right", d, got)
	}
	if again, ok := impl.Minimal(got); !ok || !sameDfa(again, got) {
		t.Fatalf("Minimal(%+v) is not its own least one, but %+v", got, again)
	}
	return got
}

func TestMaxStates(t *testing.T) {
	if impl.MaxStates != 300 {
		t.Errorf("MaxStates is %d", impl.MaxStates)
	}
}

func TestDfaOf(t *testing.T) {
	for _, c := range []struct {
		p    impl.Pattern
		want impl.Dfa
	}{
		{impl.Pattern{Text: "aB", K: 1, Fold: true}, impl.Dfa{Classes: "ab", Fold: true, Next: [][]int64{{1, 2, 0}, {1, 3, 2}, {1, 2, 0}, {1, 2, 2}}, Dist: []int64{2, 1, 1, 0}}},
		{impl.Pattern{Text: "aB", K: 1}, impl.Dfa{Classes: "Ba", Next: [][]int64{{1, 2, 0}, {1, 2, 0}, {3, 2, 1}, {1, 2, 1}}, Dist: []int64{2, 1, 1, 0}}},
		{impl.Pattern{Text: "ab"}, impl.Dfa{Classes: "ab", Next: [][]int64{{1, 0, 0}, {1, 2, 0}, {1, 0, 0}}, Dist: []int64{1, 1, 0}}},
		{impl.Pattern{Text: "aa"}, impl.Dfa{Classes: "a", Next: [][]int64{{1, 0}, {2, 0}, {2, 0}}, Dist: []int64{1, 1, 0}}},
		{impl.Pattern{Text: "aA", Fold: true}, impl.Dfa{Classes: "a", Fold: true, Next: [][]int64{{1, 0}, {2, 0}, {2, 0}}, Dist: []int64{1, 1, 0}}},
		{impl.Pattern{Text: "a", K: 1}, impl.Dfa{Classes: "a", Next: [][]int64{{1, 0}, {1, 0}}, Dist: []int64{1, 0}}},
		{impl.Pattern{Text: "\xff", K: 4}, impl.Dfa{Classes: "\xff", Next: [][]int64{{1, 0}, {1, 0}}, Dist: []int64{1, 0}}},
	} {
		if got, ok := impl.DfaOf(c.p); !ok || !sameDfa(got, c.want) {
			t.Errorf("DfaOf(%+v) = %+v, %v, want %+v", c.p, got, ok, c.want)
		}
		checkDfa(t, c.p)
	}
}

func TestDfaOfEachShortPattern(t *testing.T) {
	texts := textsOf("aAbc", 3)
	long := "abcAbBaCcxaabbccAABB" + strings.Repeat("abAc", 20)
	for _, text := range textsOf("aAb", 4)[1:] {
		for k := range int64(5) {
			for _, fold := range []bool{false, true} {
				checkTells(t, impl.Pattern{Text: text, K: k, Fold: fold}, append(texts, long)...)
			}
		}
	}
}

// TestDfaOfManyPatterns looks that there are enough that have an automaton, and
// that have none.
func TestDfaOfManyPatterns(t *testing.T) {
	r := rand.New(rand.NewPCG(12, 1))
	some, none := 0, 0
	for range 400 {
		parts := []string{"a", "ab", "abAB", "aBcDeF", "xyz\x80\xff\x00", allBytes()}[r.IntN(6)]
		p := somePattern(r, parts, 1+r.IntN(20))
		checkTells(t, p, append(textsFor(r, p)[:3], "", allBytes()[:200], allBytes()[56:], someText(r, parts, 200))...)
		if _, ok := impl.DfaOf(p); ok {
			some++
		} else {
			none++
		}
	}
	if some < 100 || none < 50 {
		t.Errorf("%d have an automaton, %d have none", some, none)
	}
}

// TestDfaTellsTheNearest holds what is told against each piece of the text by
// itself.
func TestDfaTellsTheNearest(t *testing.T) {
	r := rand.New(rand.NewPCG(12, 2))
	for range 60 {
		p := somePattern(r, "abAB", 1+r.IntN(7))
		text := someText(r, "abABc", r.IntN(25))
		d, _ := checkDfa(t, p)
		told := impl.DfaRun(d, text)
		for end := range len(text) + 1 {
			if want := min(nearest(p.Text, text, end, p.Fold), p.K+1); len(told) != len(text)+1 || told[end] != want {
				t.Fatalf("the automaton of %+v tells %d of %q, want %d at %d", p, told, text, want, end)
			}
		}
	}
}

// TestDfaOfEachByte: a byte that is none of Text is one of the others, whatever
// it is.
func TestDfaOfEachByte(t *testing.T) {
	all := allBytes()
	for b := range 256 {
		for _, fold := range []bool{false, true} {
			for k := range int64(2) {
				p := impl.Pattern{Text: all[b : b+1], K: k, Fold: fold}
				checkTells(t, p, all[:200], all[56:])
				p.Text += p.Text + "m"
				checkTells(t, p, all[:200], all[56:], p.Text+all[b:b+1]+"M")
			}
		}
	}
	for from := 0; from+20 <= 256; from++ { // as many classes as there can be, also from byte 0 on
		for _, fold := range []bool{false, true} {
			p := impl.Pattern{Text: all[from : from+20], Fold: fold}
			checkTells(t, p, p.Text, wantFolded(p.Text), all[:200], all[56:], p.Text[1:]+p.Text)
		}
	}
}

func TestDfaOfPatternsThatAreAlways(t *testing.T) {
	for _, text := range textsOf("aAb", 4)[1:] {
		for k := int64(len(text)); k <= 4; k++ {
			for _, fold := range []bool{false, true} {
				p := impl.Pattern{Text: text, K: k, Fold: fold}
				d, ok := checkDfa(t, p)
				if !ok || slices.Max(d.Dist) > int64(len(text)) || d.Dist[0] != int64(len(text)) {
					t.Errorf("DfaOf(%+v) = %+v, %v", p, d, ok)
				}
			}
		}
	}
}

func TestDfaOfAtItsLimit(t *testing.T) {
	for _, c := range []struct {
		text   string
		k      int64
		states int
	}{
		{"aaaaaaaaaaaa", 2, 299}, {"baabbaaab", 3, 299}, {"beadbada", 3, 299},
		{"abbbbbbbb", 2, 300}, {"bcbaacaa", 3, 300}, {"babaabaab", 3, 300}, {"cceadbabbbeb", 2, 300},
		{"baabaaabb", 3, 301}, {"dcbacddc", 3, 301}, {"aaddcbcc", 3, 301},
		{"abaaabbabba", 2, 301}, {"aaabaaaaad", 2, 303}, {"becaeeba", 3, 304},
	} {
		for _, fold := range []bool{false, true} {
			p := impl.Pattern{Text: c.text, K: c.k, Fold: fold}
			d, ok := checkDfa(t, p)
			if ok != (c.states <= 300) || ok && len(d.Next) != c.states {
				t.Errorf("DfaOf(%+v) has %d states, %v, want %d", p, len(d.Next), ok, c.states)
			}
			checkTells(t, p, c.text, strings.ToUpper(c.text)+c.text[2:]+c.text)
		}
	}
	for _, text := range []string{"abcdefghijklmnopqrst", strings.Repeat("a", 20), strings.Repeat("ab", 10)} {
		for k := range int64(5) {
			checkTells(t, impl.Pattern{Text: text, K: k}, text, text[1:]+text[3:])
		}
	}
}

func TestDfaOfWrongPatterns(t *testing.T) {
	for _, p := range wrongPatterns() {
		if d, ok := impl.DfaOf(p); ok || !sameDfa(d, impl.Dfa{}) {
			t.Errorf("DfaOf(%+v) = %+v, %v", p, d, ok)
		}
	}
}

// madeDfas are automata that are none of a pattern.
func madeDfas() []impl.Dfa {
	ring := impl.Dfa{Classes: "x"}
	chain, alike := impl.Dfa{}, impl.Dfa{Classes: "ab", Fold: true}
	for at := range int64(impl.MaxStates) {
		ring.Next, ring.Dist = append(ring.Next, []int64{(at + 1) % 300, at}), append(ring.Dist, at%3)
		chain.Next, chain.Dist = append(chain.Next, []int64{min(at+1, 299)}), append(chain.Dist, at/299)
		alike.Next, alike.Dist = append(alike.Next, []int64{299 - at, at / 2, 0}), append(alike.Dist, 7)
	}
	most := impl.Dfa{Classes: allBytes()[60:80], Next: [][]int64{make([]int64, 21), make([]int64, 21)}, Dist: []int64{1, 2}}
	most.Next[0][20], most.Next[1][3] = 1, 1
	return []impl.Dfa{
		{Next: [][]int64{{0}}, Dist: []int64{5}},                                                                                            // one state, no classes
		{Fold: true, Next: [][]int64{{0}}, Dist: []int64{0}},                                                                                // the same, folding
		{Next: [][]int64{{1}, {2}, {0}}, Dist: []int64{0, 1, 0}},                                                                            // no classes
		{Next: [][]int64{{1}, {0}}, Dist: []int64{math.MinInt64, math.MaxInt64}},                                                            // Dists of any value
		{Next: [][]int64{{1}, {2}, {0}}, Dist: []int64{-3, -3, -3}},                                                                         // alike all
		{Classes: "a", Next: [][]int64{{0, 0}, {1, 0}, {2, 1}}, Dist: []int64{4, 5, 6}},                                                     // two that no text leads to
		{Classes: "a", Next: [][]int64{{2, 2}, {1, 0}, {2, 0}}, Dist: []int64{4, 5, 6}},                                                     // one that no text leads to, in between
		{Classes: "ab", Next: [][]int64{{2, 1, 0}, {3, 3, 3}, {4, 4, 4}, {3, 1, 0}, {4, 2, 0}}, Dist: []int64{0, 1, 1, 0, 0}},               // several that are alike
		{Classes: "ab", Next: [][]int64{{3, 2, 1}, {0, 0, 0}, {1, 1, 1}, {2, 2, 2}}, Dist: []int64{0, 1, 2, 3}},                             // none that are alike, in another order
		{Classes: "ab", Next: [][]int64{{1, 2, 0}, {3, 0, 0}, {4, 0, 0}, {0, 0, 0}, {0, 0, 5}, {5, 5, 5}}, Dist: []int64{0, 0, 0, 0, 0, 1}}, // told apart by three bytes
		{Classes: "ab", Next: [][]int64{{0, 0, 0}, {0, 0, 0}, {0, 0, 0}}, Dist: []int64{1, 1, 1}},                                           // alike, and no text leads to them
		{Classes: "A", Fold: true, Next: [][]int64{{1, 0}, {0, 1}}, Dist: []int64{0, 1}},                                                    // a great letter
		{Classes: "AB", Fold: true, Next: [][]int64{{1, 2, 0}, {2, 0, 1}, {0, 1, 2}}, Dist: []int64{0, 1, 2}},                               // great letters
		{Classes: "AB", Next: [][]int64{{1, 2, 0}, {2, 0, 1}, {0, 1, 2}}, Dist: []int64{0, 1, 2}},                                           // the same, without Fold
		{Classes: "ACb", Fold: true, Next: [][]int64{{1, 2, 3, 0}, {2, 3, 0, 1}, {3, 0, 1, 2}, {0, 1, 2, 3}}, Dist: []int64{0, 1, 2, 3}},    // both
		{Classes: "Aa", Fold: true, Next: [][]int64{{1, 2, 3}, {0, 0, 0}, {1, 1, 1}, {2, 2, 2}}, Dist: []int64{0, 1, 2, 3}},                 // the same letter twice: the first one counts
		{Classes: "Aa", Next: [][]int64{{1, 2, 3}, {0, 0, 0}, {1, 1, 1}, {2, 2, 2}}, Dist: []int64{0, 1, 2, 3}},                             // two letters
		{Classes: "\x00\x7f\x80\xc1\xe1\xff", Fold: true, Next: [][]int64{{0, 1, 0, 1, 0, 1, 0}, {1, 1, 0, 0, 1, 1, 0}}, Dist: []int64{8, 9}},
		most, ring, chain, alike,
	}
}

func runTexts() []string {
	all := allBytes()
	return []string{"", "a", "A", "abaAbB", "xX", "\xc1\xe1", all[:200], all[56:], strings.Repeat("aAbBcCxz", 25)}
}

func TestDfaRun(t *testing.T) {
	d := impl.Dfa{Classes: "Ax", Fold: true, Next: [][]int64{{1, 2, 0}, {0, 1, 2}, {2, 0, 1}}, Dist: []int64{7, -8, 9}}
	for text, want := range map[string][]int64{
		"":      {7},
		"a":     {7, -8},
		"A":     {7, -8},
		"X":     {7, 9},
		"x":     {7, 9},
		"b":     {7, 7},
		"a.X":   {7, -8, 9, 7},
		"xXaax": {7, 9, 7, -8, 7, 9},
	} {
		if got := impl.DfaRun(d, text); !slices.Equal(got, want) {
			t.Errorf("DfaRun(%+v, %q) = %d, want %d", d, text, got, want)
		}
	}
	for _, d := range madeDfas() {
		for _, text := range runTexts() {
			checkRun(t, d, text)
		}
	}
}

func TestDfaRunOfLongTexts(t *testing.T) {
	most := strings.Repeat("ab", impl.MaxText/2)
	for _, d := range append(madeDfas(), someDfas(30)...) {
		checkRun(t, d, most)
		if got := impl.DfaRun(d, most); len(got) != 201 {
			t.Errorf("DfaRun of 200 bytes = %d", got)
		}
		for _, text := range []string{most + "a", most + most, strings.Repeat("a", 256), strings.Repeat("a", 456), strings.Repeat("a", 1<<16)} {
			if got := impl.DfaRun(d, text); len(got) != 0 {
				t.Errorf("DfaRun of %d bytes = %d", len(text), got)
			}
		}
	}
}

func TestMinimal(t *testing.T) {
	for _, c := range []struct{ d, want impl.Dfa }{
		{impl.Dfa{Classes: "a", Next: [][]int64{{2, 1}, {2, 1}, {2, 0}}, Dist: []int64{1, 1, 0}}, impl.Dfa{Classes: "a", Next: [][]int64{{1, 0}, {1, 0}}, Dist: []int64{1, 0}}},
		{impl.Dfa{Classes: "a", Next: [][]int64{{0, 3}, {1, 1}, {2, 0}, {2, 3}}, Dist: []int64{5, 6, 7, 8}}, impl.Dfa{Classes: "a", Next: [][]int64{{0, 1}, {2, 1}, {2, 0}}, Dist: []int64{5, 8, 7}}},
		{impl.Dfa{Classes: "ab", Fold: true, Next: [][]int64{{3, 2, 1}, {0, 0, 0}, {1, 1, 1}, {2, 2, 2}}, Dist: []int64{0, 1, 2, 3}}, impl.Dfa{Classes: "ab", Fold: true, Next: [][]int64{{1, 2, 3}, {2, 2, 2}, {3, 3, 3}, {0, 0, 0}}, Dist: []int64{0, 3, 2, 1}}},
		{impl.Dfa{Classes: "ab", Next: [][]int64{{1, 2, 1}, {1, 2, 1}, {2, 1, 0}}, Dist: []int64{4, 4, 4}}, impl.Dfa{Classes: "ab", Next: [][]int64{{0, 0, 0}}, Dist: []int64{4}}},
		{impl.Dfa{Next: [][]int64{{1}, {2}, {3}, {0}}, Dist: []int64{0, 1, 0, 1}}, impl.Dfa{Next: [][]int64{{1}, {0}}, Dist: []int64{0, 1}}},
	} {
		if got, ok := impl.Minimal(c.d); !ok || !sameDfa(got, c.want) {
			t.Errorf("Minimal(%+v) = %+v, %v, want %+v", c.d, got, ok, c.want)
		}
	}
	for _, d := range madeDfas() {
		least := checkLeast(t, d)
		for _, text := range runTexts() {
			if got, want := impl.DfaRun(least, text), wantRun(d, text); !slices.Equal(got, want) {
				t.Errorf("the least automaton of %+v tells %d of %q, want %d", d, got, text, want)
			}
		}
	}
}

// someDfas have few states and tell few numbers, so that some are alike.
func someDfas(count int) []impl.Dfa {
	r := rand.New(rand.NewPCG(12, 3))
	var out []impl.Dfa
	for range count {
		states, tells := 1+r.IntN(9), 1+r.IntN(3)
		d := impl.Dfa{Classes: []string{"", "a", "ab", "AB", "Aab"}[r.IntN(5)], Fold: r.IntN(2) == 0}
		for range states {
			var row []int64
			for range len(d.Classes) + 1 {
				row = append(row, int64(r.IntN(states)))
			}
			d.Next, d.Dist = append(d.Next, row), append(d.Dist, int64(r.IntN(tells)))
		}
		out = append(out, d)
	}
	return out
}

func TestMinimalOfSomeAutomata(t *testing.T) {
	texts := textsOf("aAbc", 4)
	smaller, same := 0, 0
	for _, d := range someDfas(1500) {
		least := checkLeast(t, d)
		for _, text := range texts {
			if got := impl.DfaRun(least, text); !slices.Equal(got, wantRun(d, text)) {
				t.Fatalf("the least automaton of %+v tells %d of %q, want %d", d, got, text, wantRun(d, text))
			}
		}
		if len(least.Next) < len(d.Next) {
			smaller++
		} else {
			same++
		}
	}
	if smaller < 100 || same < 100 {
		t.Errorf("%d have a smaller one, %d have none", smaller, same)
	}
}

// TestMinimalOfDoubledAutomata: what is put beside an automaton's states, or
// stands for them, changes no more than the least one would.
func TestMinimalOfDoubledAutomata(t *testing.T) {
	r := rand.New(rand.NewPCG(12, 4))
	for _, d := range someDfas(200) {
		want := checkLeast(t, d)
		count := int64(len(d.Next))
		double := impl.Dfa{Classes: d.Classes, Fold: d.Fold, Dist: slices.Concat(d.Dist, d.Dist)}
		for _, row := range slices.Concat(d.Next, d.Next) {
			var either []int64
			for _, to := range row {
				either = append(either, to+count*int64(r.IntN(2)))
			}
			double.Next = append(double.Next, either)
		}
		if got := checkLeast(t, double); !sameDfa(got, want) {
			t.Fatalf("the least automaton of %+v is %+v, want %+v", double, got, want)
		}
	}
}

// wantDfaOk tells condition by condition whether the automaton is right.
func wantDfaOk(d impl.Dfa) bool {
	for i := range d.Classes {
		if i > 0 && d.Classes[i-1] >= d.Classes[i] {
			return false
		}
	}
	for _, row := range d.Next {
		for _, to := range row {
			if to < 0 || to >= int64(len(d.Next)) {
				return false
			}
		}
		if len(row) != len(d.Classes)+1 {
			return false
		}
	}
	return len(d.Classes) <= 20 && len(d.Next) >= 1 && len(d.Next) <= 300 && len(d.Dist) == len(d.Next)
}

// checkDfaOk asks everything of an automaton, right or not.
func checkDfaOk(t *testing.T, d impl.Dfa) bool {
	t.Helper()
	right := wantDfaOk(d)
	if impl.DfaOk(d) != right {
		t.Errorf("DfaOk(%+v) is not %v", d, right)
	}
	for _, text := range []string{"", "abAB", "xxxx"} {
		if right {
			checkRun(t, d, text)
		} else if got := impl.DfaRun(d, text); len(got) != 0 {
			t.Errorf("DfaRun(%+v, %q) = %d", d, text, got)
		}
	}
	if right {
		checkLeast(t, d)
	} else if got, ok := impl.Minimal(d); ok || !sameDfa(got, impl.Dfa{}) {
		t.Errorf("Minimal(%+v) = %+v, %v", d, got, ok)
	}
	return right
}

// changedDfas differ from d in one thing.
func changedDfas(d impl.Dfa) []impl.Dfa {
	var out []impl.Dfa
	change := func(how func(d *impl.Dfa)) {
		other := cloneDfa(d)
		how(&other)
		out = append(out, other)
	}
	count := int64(len(d.Next))
	for at, row := range d.Next {
		for class := range row {
			for _, x := range []int64{math.MinInt64, -1, 0, count - 1, count, count + 1, 300, 1 << 32, math.MaxInt64} {
				change(func(d *impl.Dfa) { d.Next[at][class] = x })
			}
		}
		change(func(d *impl.Dfa) { d.Next[at] = row[1:] })
		change(func(d *impl.Dfa) { d.Next[at] = row[:len(row)-1] })
		change(func(d *impl.Dfa) { d.Next[at] = append(d.Next[at], 0) })
		change(func(d *impl.Dfa) { d.Next[at] = nil })
		change(func(d *impl.Dfa) { d.Next = slices.Delete(d.Next, at, at+1) })
		change(func(d *impl.Dfa) { d.Next = slices.Insert(d.Next, at, slices.Clone(row)) })
		change(func(d *impl.Dfa) {
			d.Next, d.Dist = slices.Insert(d.Next, at, slices.Clone(row)), append(d.Dist, 1)
		})
		for _, x := range []int64{math.MinInt64, -1, 0, 4, 300, math.MaxInt64} {
			change(func(d *impl.Dfa) { d.Dist[at] = x })
		}
		change(func(d *impl.Dfa) { d.Dist = slices.Delete(d.Dist, at, at+1) })
		change(func(d *impl.Dfa) { d.Dist = slices.Insert(d.Dist, at, 0) })
	}
	for _, classes := range []string{"", "a", "b", "ab", "ba", "aa", "AB", "Aa", "aA", "\x00\xff", "\xff\x00", "abc", "aba", "aab", "abb", "acb", "\x00\x00"} {
		change(func(d *impl.Dfa) { d.Classes = classes })
	}
	change(func(d *impl.Dfa) { d.Fold = !d.Fold })
	change(func(d *impl.Dfa) { d.Dist = nil })
	change(func(d *impl.Dfa) { d.Next = nil })
	change(func(d *impl.Dfa) { d.Next, d.Dist = nil, nil })
	return out
}

func TestDfaOkOfEachChangedAutomaton(t *testing.T) {
	right, wrong := 0, 0
	for _, d := range append(madeDfas()[:18], someDfas(40)...) {
		if !checkDfaOk(t, d) {
			t.Errorf("%+v is not right", d)
		}
		for _, other := range changedDfas(d) {
			if checkDfaOk(t, other) {
				right++
			} else {
				wrong++
			}
		}
	}
	if right < 500 || wrong < 500 {
		t.Errorf("%d were right, %d wrong", right, wrong)
	}
}

func TestDfaOkAtItsLimits(t *testing.T) {
	for _, states := range []int{0, 1, 2, 299, 300, 301, 302, 600} {
		for _, classes := range []int{0, 1, 19, 20, 21, 22, 255} {
			d := impl.Dfa{Classes: allBytes()[:classes], Dist: make([]int64, states)}
			for at := range states {
				row := make([]int64, classes+1)
				row[classes] = int64(min(at+1, states-1))
				d.Next = append(d.Next, row)
			}
			if right := checkDfaOk(t, d); right != (states >= 1 && states <= 300 && classes <= 20) {
				t.Errorf("DfaOk of %d states and %d classes is %v", states, classes, right)
			}
			if states > 0 {
				d.Dist[states-1] = 1 // so that no two states are alike
				checkDfaOk(t, d)
				d.Next[states-1][0] = int64(states)
				checkDfaOk(t, d)
			}
		}
	}
	for _, d := range []impl.Dfa{{}, {Classes: "a"}, {Dist: []int64{0}}, {Next: [][]int64{{0}}}, {Next: [][]int64{nil}, Dist: []int64{0}}, {Next: [][]int64{{}}, Dist: []int64{0}}} {
		if checkDfaOk(t, d) {
			t.Errorf("DfaOk(%+v) is true", d)
		}
	}
	for a := range 256 { // Classes are held against each other as bytes, folded or not
		for b := range 256 {
			d := impl.Dfa{Classes: string([]byte{byte(a), byte(b)}), Fold: b%2 == 0, Next: [][]int64{{0, 0, 0}}, Dist: []int64{3}}
			if impl.DfaOk(d) != (a < b) {
				t.Errorf("DfaOk(%+v) is not %v", d, a < b)
			}
		}
	}
}

// heldDfa gives the automaton with spare room behind each list that is written
// full.
func heldDfa(d impl.Dfa) impl.Dfa {
	held := impl.Dfa{Classes: d.Classes, Fold: d.Fold, Dist: roomBehind(d.Dist)}
	for _, row := range d.Next {
		held.Next = append(held.Next, roomBehind(row))
	}
	held.Next = append(held.Next, []int64{77})[:len(d.Next)]
	return held
}

func checkHeldDfa(t *testing.T, d impl.Dfa, want impl.Dfa) {
	t.Helper()
	checkKept(t, d.Dist, want.Dist)
	for i, row := range d.Next {
		checkKept(t, row, want.Next[i])
	}
	behind := d.Next[:len(d.Next)+1][len(d.Next)]
	if !sameDfa(d, want) || !slices.Equal(behind, []int64{77}) {
		t.Errorf("%+v has become %+v", want, d)
	}
}

// spoilDfa writes all lists full, with the room behind them.
func spoilDfa(d impl.Dfa) {
	for _, row := range d.Next {
		spoil(row)
	}
	rows := d.Next[:cap(d.Next)]
	for i := range rows {
		rows[i] = []int64{99}
	}
	spoil(d.Dist)
}

func TestAutomataAreOnlyRead(t *testing.T) {
	for _, want := range append(madeDfas(), someDfas(30)...) {
		held := heldDfa(want)
		first, _ := impl.Minimal(held)
		again, _ := impl.Minimal(held)
		told, more := impl.DfaRun(held, "aAbBx"), impl.DfaRun(held, "aAbBx")
		if !impl.DfaOk(held) || !impl.DfaOk(held) || !sameDfa(first, again) || !slices.Equal(told, more) {
			t.Errorf("asked twice, %+v answers something else", want)
		}
		checkHeldDfa(t, held, want)
		least := cloneDfa(again)
		spoilDfa(first)
		spoil(told)
		checkHeldDfa(t, held, want)
		spoilDfa(held)
		if !sameDfa(again, least) || !slices.Equal(more, wantRun(want, "aAbBx")) {
			t.Errorf("what is told of %+v has become %+v and %d", want, again, more)
		}
	}
}

// TestAutomataAreNewMemory writes one list of an answer full and looks at the
// others, and at another answer.
func TestAutomataAreNewMemory(t *testing.T) {
	p := impl.Pattern{Text: "aBab", K: 2, Fold: true}
	want, _ := wantDfa(p)
	least := wantLeast(want)
	again, _ := impl.DfaOf(p)
	leastAgain, _ := impl.Minimal(want)
	for at := range want.Next {
		d, _ := impl.DfaOf(p)
		spoil(d.Next[at])
		d.Next[at] = want.Next[at]
		if !sameDfa(d, want) || !sameDfa(again, want) {
			t.Errorf("the list of state %d shares its memory", at)
		}
	}
	for at := range least.Next {
		d, _ := impl.Minimal(want)
		spoil(d.Next[at])
		d.Next[at] = least.Next[at]
		if !sameDfa(d, least) || !sameDfa(leastAgain, least) {
			t.Errorf("the list of state %d of the least one shares its memory", at)
		}
	}
	for _, whole := range []impl.Dfa{again, leastAgain} {
		d := cloneDfa(whole)
		spoil(whole.Dist)
		whole.Dist = d.Dist
		if !sameDfa(whole, d) {
			t.Error("Dist shares its memory")
		}
	}
}

// TestAutomataKeepNoTexts: what is handed over lies in bytes that are written
// over.
func TestAutomataKeepNoTexts(t *testing.T) {
	for _, fold := range []bool{false, true} {
		for _, text := range []string{"a", "ab", "abc", "ba"} {
			from := []byte(text)
			d, _ := impl.DfaOf(impl.Pattern{Text: unsafe.String(&from[0], len(from)), K: 1, Fold: fold})
			want, _ := wantDfa(impl.Pattern{Text: text, K: 1, Fold: fold})
			clear(from)
			if !sameDfa(d, want) {
				t.Errorf("the automaton has become %+v, want %+v", d, want)
			}
			classes := []byte(want.Classes)
			held := cloneDfa(want)
			held.Classes = unsafe.String(&classes[0], len(classes))
			least, _ := impl.Minimal(held)
			clear(classes)
			if !sameDfa(least, wantLeast(want)) {
				t.Errorf("the least automaton has become %+v, want %+v", least, wantLeast(want))
			}
		}
	}
}

// TestAutomataLeaveNothingRunning: whatever the answer is, all that was started
// for it has ended.
func TestAutomataLeaveNothingRunning(t *testing.T) {
	before := runtime.NumGoroutine()
	for range 50 {
		for _, p := range []impl.Pattern{{}, {Text: "abAB", K: 1, Fold: true}, {Text: "abcdefghijklmnopqrst", K: 4}, {Text: "bcbaacaa", K: 3}} {
			d, _ := impl.DfaOf(p)
			impl.Minimal(d)
		}
	}
	for range 1000 { // an ended goroutine may be counted for a moment
		if runtime.NumGoroutine() <= before {
			return
		}
		time.Sleep(5 * time.Millisecond)
	}
	t.Errorf("%d are running, and %d were ahead of it", runtime.NumGoroutine(), before)
}
