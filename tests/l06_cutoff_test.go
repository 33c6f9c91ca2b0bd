package tests

import (
	"math"
	"math/rand/v2"
	"slices"
	"strings"
	"testing"

	"loop.example/g00568/impl"
)

// wantCut leaves out from the end of a column what is more than k.
func wantCut(col []int64, k int64) impl.Cut {
	for col[len(col)-1] > k {
		col = col[:len(col)-1]
	}
	var c impl.Cut
	for _, n := range col {
		c.Col = append(c.Col, min(n, k+1))
	}
	c.Last = int64(len(col)) - 1
	return c
}

// padded gives a column that is cut off with K + 1 for all behind Last.
func padded(p impl.Pattern, c impl.Cut) []int64 {
	return append(slices.Clone(c.Col), slices.Repeat([]int64{p.K + 1}, len(p.Text)+1-len(c.Col))...)
}

func checkCut(t *testing.T, p impl.Pattern, got impl.Cut, col []int64) {
	t.Helper()
	if want := wantCut(col, p.K); got.Last != want.Last || !slices.Equal(got.Col, want.Col) {
		t.Errorf("%+v is cut off as %+v, and its column is %d", p, got, col)
	}
	if !impl.CutOk(p, got) {
		t.Errorf("CutOk(%+v, %+v) is false", p, got)
	}
	if d, want := impl.CutDist(p, got), min(col[len(p.Text)], p.K+1); d != want {
		t.Errorf("CutDist(%+v, %+v) = %d, want %d", p, got, d, want)
	}
}

func checkCutWrong(t *testing.T, p impl.Pattern, c impl.Cut) {
	t.Helper()
	if impl.CutOk(p, c) {
		t.Errorf("CutOk(%+v, %+v) is true", p, c)
	}
	if got := impl.CutDist(p, c); got != -1 {
		t.Errorf("CutDist(%+v, %+v) = %d", p, c, got)
	}
	if got := impl.CutStep(p, c, 'a'); len(got.Col) != 0 || got.Last != 0 {
		t.Errorf("CutStep(%+v, %+v) = %+v", p, c, got)
	}
}

func TestCutNew(t *testing.T) {
	for bytes := 1; bytes <= 20; bytes++ {
		for k := range int64(5) {
			p := impl.Pattern{Text: strings.Repeat("a", bytes), K: k, Fold: k == 1}
			checkCut(t, p, impl.CutNew(p), impl.FirstCol(p))
		}
	}
	for _, p := range wrongPatterns() {
		if c := impl.CutNew(p); len(c.Col) != 0 || c.Last != 0 {
			t.Errorf("CutNew(%+v) = %+v", p, c)
		}
	}
}

func TestCutStep(t *testing.T) {
	p := impl.Pattern{Text: "abc", K: 1}
	none := impl.Pattern{Text: "ab"}
	one := impl.Pattern{Text: "a", K: 4, Fold: true}
	for _, c := range []struct {
		p    impl.Pattern
		col  []int64
		b    int64
		want []int64
		dist int64
	}{
		{p, []int64{0, 1}, 'a', []int64{0, 0, 1}, 2},
		{p, []int64{0, 0, 1}, 'c', []int64{0, 1, 1, 1}, 1},
		{p, []int64{0, 0, 1}, 'b', []int64{0, 1, 0, 1}, 1},
		{p, []int64{0, 1, 0, 1}, 'c', []int64{0, 1, 1, 0}, 0},
		{p, []int64{0, 1, 1, 1}, 'x', []int64{0, 1}, 2},
		{p, []int64{0, 1, 2, 1}, 'c', []int64{0, 1}, 2},
		{p, []int64{0, 1, 2, 1}, 'b', []int64{0, 1, 1}, 2},
		{none, []int64{0}, 'a', []int64{0, 0}, 1},
		{none, []int64{0}, 'A', []int64{0}, 1},
		{none, []int64{0, 0}, 'b', []int64{0, 1, 0}, 0},
		{none, []int64{0, 1, 0}, 'b', []int64{0}, 1},
		{one, []int64{0, 1}, 'A', []int64{0, 0}, 0},
		{one, []int64{0, 0}, 'b', []int64{0, 1}, 1},
	} {
		got := impl.CutStep(c.p, impl.Cut{Col: c.col, Last: int64(len(c.col)) - 1}, c.b)
		if !slices.Equal(got.Col, c.want) || got.Last != int64(len(c.want))-1 || impl.CutDist(c.p, got) != c.dist {
			t.Errorf("CutStep(%+v, %d, %d) = %+v, want %d", c.p, c.col, c.b, got, c.want)
		}
	}
}

// TestCutStepOfEachColumn cuts off each right column, steps what is left, and
// steps as well the column that has K + 1 for all that was cut off.
func TestCutStepOfEachColumn(t *testing.T) {
	for _, text := range textsOf("aAb", 4)[1:] {
		for _, col := range rightColumns(len(text)) {
			for k := range int64(5) {
				p := impl.Pattern{Text: text, K: k, Fold: len(text)%2 == 0}
				c := wantCut(col, k)
				checkCut(t, p, c, col)
				for _, b := range []byte("aAbBc") {
					next := impl.CutStep(p, c, int64(b))
					checkCut(t, p, next, wantNextCol(p, padded(p, c), b))
					checkCut(t, p, next, wantNextCol(p, col, b))
				}
			}
		}
	}
}

// TestCutsThroughWholeTexts: what is cut off has the column up to its last place
// that is near enough.
func TestCutsThroughWholeTexts(t *testing.T) {
	r := rand.New(rand.NewPCG(6, 1))
	atEnd, ahead := 0, 0
	for length := 1; length <= 20; length++ {
		for k := range int64(5) {
			p := somePattern(r, "abAB", length)
			p.K = k
			for _, text := range textsFor(r, p) {
				c, col := impl.CutNew(p), impl.FirstCol(p)
				for _, b := range []byte(text) {
					c, col = impl.CutStep(p, c, int64(b)), impl.NextCol(p, col, int64(b))
					checkCut(t, p, c, col)
					if c.Last == int64(length) {
						atEnd++
					} else {
						ahead++
					}
				}
			}
		}
	}
	if atEnd < 1000 || ahead < 1000 {
		t.Errorf("Last was %d times at the end, %d times ahead of it", atEnd, ahead)
	}
}

func TestCutOkOfEachShortColumn(t *testing.T) {
	lists := listsOf(-1, 5, 5)
	for bytes := 1; bytes <= 3; bytes++ {
		for k := range int64(5) {
			p := impl.Pattern{Text: "abc"[:bytes], K: k}
			var right []impl.Cut
			for _, col := range rightColumns(bytes) {
				right = append(right, wantCut(col, k))
			}
			for _, l := range lists {
				for last := int64(len(l)) - 2; last <= int64(len(l)); last++ {
					c := impl.Cut{Col: l, Last: last}
					if slices.ContainsFunc(right, func(x impl.Cut) bool { return x.Last == last && slices.Equal(x.Col, l) }) {
						checkCut(t, p, c, padded(p, c))
					} else {
						checkCutWrong(t, p, c)
					}
				}
			}
		}
	}
}

func TestCutOkOfWhatIsNotRight(t *testing.T) {
	p := impl.Pattern{Text: "abcd", K: 2}
	for _, l := range [][]int64{{0, 1, 2}, {0, 1, 2, 2}, {0, 0, 1, 2}, {0, 1, 2, 3, 2}, {0, 1, 2, 1, 0}, {0, 0, 0, 0, 0}, {0, 1, 2, 2, 2}} {
		c := impl.Cut{Col: l, Last: int64(len(l)) - 1}
		checkCut(t, p, c, padded(p, c))
		for _, last := range []int64{c.Last - 1, c.Last + 1, -c.Last, -1, math.MaxInt64, math.MinInt64, 1 << 32, 1<<32 + c.Last} {
			checkCutWrong(t, p, impl.Cut{Col: l, Last: last})
		}
	}
	for _, l := range [][]int64{
		nil, {0, 0, 0, 0, 0, 0}, {0, 1, 2, 1, 2, 2}, // no number, one too many
		{0}, {0, 1}, {0, 1, 1}, {0, 1, 0}, {0, 0, 1, 1}, {0, 0, 0, 0}, // less ahead of the end
		{0, 1, 2, 3}, {0, 1, 2, 3, 3}, {0, 0, 1, 2, 3}, {0, 1, 2, 3, 4}, // the last one is not near enough
		{1}, {2}, {1, 2}, {2, 2}, {1, 1, 2, 2, 2}, {-1, 0, 1, 2}, // the first one is not 0
		{0, -1, 0, 1, 2}, {0, 1, 0, -1, 0}, {0, 0, 0, 0, -1}, {0, 0, 0, 0, math.MinInt64}, // below 0
		{0, 2}, {0, 2, 2}, {0, 1, 3, 2}, {0, 1, 2, 0, 1}, {0, 1, 1, 3, 2}, {0, 0, 2}, {0, math.MaxInt64, 2}, {0, 0, math.MinInt64, 1, 2}, // more than one more or less
	} {
		checkCutWrong(t, p, impl.Cut{Col: l, Last: int64(len(l)) - 1})
	}
	checkCutWrong(t, p, impl.Cut{})
	checkCutWrong(t, p, impl.Cut{Last: -1})
	// more than K + 1 amid what is right else
	long := impl.Pattern{Text: "abcdefgh", K: 1}
	checkCut(t, long, impl.Cut{Col: []int64{0, 1, 2, 2, 2, 1}, Last: 5}, []int64{0, 1, 2, 2, 2, 1, 2, 2, 2})
	checkCutWrong(t, long, impl.Cut{Col: []int64{0, 1, 2, 3, 2, 1}, Last: 5})
	for _, p := range wrongPatterns() {
		for _, l := range [][]int64{nil, {0}, {0, 0}, {0, 1, 2, 3}, make([]int64, len(p.Text)+1)} {
			checkCutWrong(t, p, impl.Cut{Col: l, Last: int64(len(l)) - 1})
		}
	}
}

func TestCutStepBehindNoByte(t *testing.T) {
	for _, fold := range []bool{false, true} {
		p := impl.Pattern{Text: allBytes()[60:80], K: 4, Fold: fold}
		for _, b := range notBytes() {
			if got := impl.CutStep(p, impl.CutNew(p), b); len(got.Col) != 0 || got.Last != 0 {
				t.Errorf("CutStep behind %d, which is no byte, = %+v", b, got)
			}
		}
	}
}

func TestCutsAreOnlyRead(t *testing.T) {
	for _, p := range []impl.Pattern{{Text: "abA", K: 1}, {Text: "abA"}, {Text: "abA", K: 4, Fold: true}} {
		for _, col := range rightColumns(3) {
			want := wantCut(col, p.K)
			held := impl.Cut{Col: roomBehind(want.Col), Last: want.Last}
			first, again := impl.CutStep(p, held, 'a'), impl.CutStep(p, held, 'a')
			impl.CutOk(p, held)
			impl.CutDist(p, held)
			checkKept(t, held.Col, want.Col)
			if first.Last != again.Last || !slices.Equal(first.Col, again.Col) {
				t.Errorf("CutStep(%+v) = %+v, and then %+v", want, first, again)
			}
			for i := range first.Col {
				first.Col[i] = 9
			}
			checkKept(t, held.Col, want.Col)
			if !impl.CutOk(p, again) {
				t.Error("two answers share their numbers")
			}
		}
		first, again := impl.CutNew(p), impl.CutNew(p)
		first.Col[0] = 9
		if again.Col[0] != 0 {
			t.Error("two answers share their numbers")
		}
	}
}

// TestEnginesTellTheSameEnds: each way of keeping a column finds the ends that
// EndsOf finds.
func TestEnginesTellTheSameEnds(t *testing.T) {
	r := rand.New(rand.NewPCG(6, 2))
	for range 100 {
		p := somePattern(r, "abAB", 1+r.IntN(20))
		text := someText(r, "abABc", r.IntN(180)) + p.Text
		m, rows, c := impl.MyersNew(p), impl.RowsNew(p), impl.CutNew(p)
		ends := map[string][]impl.End{}
		for at := range len(text) + 1 {
			for name, d := range map[string]int64{"Myers": m.Score, "Rows": impl.RowsDist(p, rows), "Cut": impl.CutDist(p, c)} {
				if d <= p.K {
					ends[name] = append(ends[name], impl.End{At: int64(at), Dist: d})
				}
			}
			if at < len(text) {
				b := int64(text[at])
				m, rows, c = impl.MyersStep(p, m, b), impl.RowsStep(p, rows, b), impl.CutStep(p, c, b)
			}
		}
		for name, got := range ends {
			checkEnds(t, p, text, got)
			if len(got) == 0 {
				t.Errorf("%s finds no end of %+v in %q", name, p, text)
			}
		}
		if len(ends) != 3 {
			t.Errorf("only %d engines find an end of %+v in %q", len(ends), p, text)
		}
	}
}
