package tests

import (
	"math"
	"math/rand/v2"
	"slices"
	"strings"
	"testing"

	"loop.example/g00568/impl"
)

// wantRows adds up the bits of the numbers of a column, which need not be right,
// that are at most k.
func wantRows(col []int64, most int64) impl.Rows {
	var r impl.Rows
	for k := int64(0); k <= most; k++ {
		row, bit := int64(0), int64(1)
		for _, n := range col[1:] {
			if n <= k {
				row += bit
			}
			bit *= 2
		}
		r.R = append(r.R, row)
	}
	return r
}

func checkRows(t *testing.T, p impl.Pattern, got impl.Rows, col []int64) {
	t.Helper()
	if want := wantRows(col, p.K); !slices.Equal(got.R, want.R) {
		t.Errorf("the rows of %+v are %b, and its column %d", p, got.R, col)
	}
	if !impl.RowsOk(p, got) {
		t.Errorf("RowsOk(%+v, %b) is false", p, got.R)
	}
	if d, want := impl.RowsDist(p, got), min(col[len(p.Text)], p.K+1); d != want {
		t.Errorf("RowsDist(%+v, %b) = %d, want %d", p, got.R, d, want)
	}
}

func checkRowsWrong(t *testing.T, p impl.Pattern, r impl.Rows) {
	t.Helper()
	if impl.RowsOk(p, r) {
		t.Errorf("RowsOk(%+v, %b) is true", p, r.R)
	}
	if got := impl.RowsDist(p, r); got != -1 {
		t.Errorf("RowsDist(%+v, %b) = %d", p, r.R, got)
	}
	if got := impl.RowsStep(p, r, 'a'); len(got.R) != 0 {
		t.Errorf("RowsStep(%+v, %b) = %b", p, r.R, got.R)
	}
}

func TestRowsNew(t *testing.T) {
	for bytes := 1; bytes <= 20; bytes++ {
		for k := range int64(5) {
			p := impl.Pattern{Text: strings.Repeat("a", bytes), K: k, Fold: k == 1}
			checkRows(t, p, impl.RowsNew(p), impl.FirstCol(p))
		}
	}
	if r := impl.RowsNew(impl.Pattern{Text: "ab", K: 4}); !slices.Equal(r.R, []int64{0, 1, 3, 3, 3}) {
		t.Errorf("%b", r.R)
	}
	for _, p := range wrongPatterns() {
		if r := impl.RowsNew(p); len(r.R) != 0 {
			t.Errorf("RowsNew(%+v) = %b", p, r.R)
		}
	}
}

func TestRowsStep(t *testing.T) {
	p := impl.Pattern{Text: "abc", K: 1}
	one := impl.Pattern{Text: "a", K: 4, Fold: true}
	for _, c := range []struct {
		p    impl.Pattern
		r    []int64
		b    int64
		want []int64
		dist int64
	}{
		{p, []int64{0, 1}, 'a', []int64{1, 3}, 2},
		{p, []int64{1, 3}, 'c', []int64{0, 7}, 1},
		{p, []int64{1, 3}, 'b', []int64{2, 7}, 1},
		{p, []int64{2, 7}, 'c', []int64{4, 7}, 0},
		{p, []int64{0, 1}, 'A', []int64{0, 1}, 2},
		{p, []int64{7, 7}, 'x', []int64{0, 7}, 1},
		{p, []int64{4, 5}, 'x', []int64{0, 5}, 1},
		{p, []int64{4, 5}, 'a', []int64{1, 7}, 1},
		{impl.Pattern{Text: "abc"}, []int64{5}, 'b', []int64{2}, 1},
		{one, []int64{0, 1, 1, 1, 1}, 'A', []int64{1, 1, 1, 1, 1}, 0},
		{one, []int64{1, 1, 1, 1, 1}, 'b', []int64{0, 1, 1, 1, 1}, 1},
	} {
		got := impl.RowsStep(c.p, impl.Rows{R: c.r}, c.b)
		if !slices.Equal(got.R, c.want) || impl.RowsDist(c.p, got) != c.dist {
			t.Errorf("RowsStep(%+v, %b, %d) = %b, want %b", c.p, c.r, c.b, got.R, c.want)
		}
	}
}

// unevenColumns gives all columns of a text of so many bytes whose rows are
// right: their numbers may fall by more than one, and rise to K + 1 again.
func unevenColumns(bytes int, k int64) [][]int64 {
	columns := [][]int64{{0}}
	for place := 1; place <= bytes; place++ {
		var longer [][]int64
		for _, col := range columns {
			for n := range min(int64(place), k+1) + 1 {
				longer = append(longer, append(slices.Clone(col), n))
			}
		}
		columns = longer
	}
	return columns
}

func TestRowsStepOfEachFewRows(t *testing.T) {
	for _, text := range textsOf("aAb", 3)[1:] {
		for k := range int64(5) {
			for _, col := range unevenColumns(len(text), k) {
				for _, fold := range []bool{false, true} {
					p := impl.Pattern{Text: text, K: k, Fold: fold}
					rows := wantRows(col, k)
					checkRows(t, p, rows, col)
					for _, b := range []byte("aAbBc") {
						checkRows(t, p, impl.RowsStep(p, rows, int64(b)), wantNextCol(p, col, b))
					}
				}
			}
		}
	}
}

// TestRowsThroughWholeTexts: row k has just the beginnings that the column has
// with at most k.
func TestRowsThroughWholeTexts(t *testing.T) {
	r := rand.New(rand.NewPCG(5, 1))
	for length := 1; length <= 20; length++ {
		for k := range int64(5) {
			p := somePattern(r, "abAB", length)
			p.K = k
			for _, text := range textsFor(r, p) {
				rows, col := impl.RowsNew(p), impl.FirstCol(p)
				for _, b := range []byte(text) {
					rows, col = impl.RowsStep(p, rows, int64(b)), impl.NextCol(p, col, int64(b))
					checkRows(t, p, rows, col)
				}
			}
		}
	}
}

// wantRowsOk looks for each bit by itself.
func wantRowsOk(bytes int, k int64, rows []int64) bool {
	if int64(len(rows)) != k+1 {
		return false
	}
	for i, row := range rows {
		if row < 0 || row >= 1<<bytes {
			return false
		}
		for place := range bytes {
			has := row>>place%2 == 1
			if place < i && !has || i > 0 && rows[i-1]>>place%2 == 1 && !has {
				return false
			}
		}
	}
	return true
}

func TestRowsOkOfEachFewRows(t *testing.T) {
	lists := listsOf(-2, 16, 3)
	for bytes := 1; bytes <= 3; bytes++ {
		for k := range int64(4) {
			p := impl.Pattern{Text: "abc"[:bytes], K: k}
			for _, l := range lists {
				if wantRowsOk(bytes, k, l) {
					if !impl.RowsOk(p, impl.Rows{R: l}) || len(impl.RowsStep(p, impl.Rows{R: l}, 'x').R) != len(l) {
						t.Errorf("RowsOk(%+v, %b) is false", p, l)
					}
				} else {
					checkRowsWrong(t, p, impl.Rows{R: l})
				}
			}
		}
	}
}

func TestRowsOkOfWhatIsNotRight(t *testing.T) {
	all := int64(1<<20 - 1)
	p := impl.Pattern{Text: strings.Repeat("a", 20), K: 4}
	for _, l := range [][]int64{{0, 1, 3, 7, 15}, {all, all, all, all, all}, {0, all, all, all, all}, {1 << 19, 1<<19 | 1, 1<<19 | 3, 1<<19 | 7, 1<<19 | 15}} {
		if !impl.RowsOk(p, impl.Rows{R: l}) {
			t.Errorf("RowsOk(%b) is false", l)
		}
	}
	for _, l := range [][]int64{
		nil, {0}, {0, 1, 3, 7}, {0, 1, 3, 7, 15, 15}, {0, 1, 3, 7, 15, 31}, {all, all, all, all}, {all, all, all, all, all, all}, // too few, too many
		{all + 1, all, all, all, all}, {0, 1, 3, 7, all + 1 | 15}, {0, 1, 3, 7, 1<<62 | 15}, {0, 1, 3, 7, math.MaxInt64}, {0, 1, 3, 7, -1}, {math.MinInt64, 1, 3, 7, 15}, // bits beyond Text's
		{16, 1, 3, 7, 15}, {0, 1 << 19, 3, 7, 15}, {1 << 19, 1, 3, 7, 15}, {0, 1, 3, 31, 15}, {all, all, all, all, all >> 1}, // not the bits of the one ahead
		{0, 0, 3, 7, 15}, {0, 1, 1, 7, 15}, {0, 1, 3, 3, 15}, {0, 1, 3, 7, 7}, {0, 0, 0, 0, 0}, {0, 2, 3, 7, 15}, {0, 1, 3, 7, 14}, // not the lowest bits
	} {
		checkRowsWrong(t, p, impl.Rows{R: l})
	}
	for _, p := range []impl.Pattern{{Text: "a", K: 4}, {Text: "ab", K: 4}} {
		rows := impl.RowsNew(p).R
		for k := range rows {
			changed := slices.Clone(rows)
			changed[k] = 1<<len(p.Text) | changed[k]
			checkRowsWrong(t, p, impl.Rows{R: changed})
			if k > 0 {
				changed[k] = rows[k] - 1
				checkRowsWrong(t, p, impl.Rows{R: changed})
			}
		}
	}
	for _, p := range wrongPatterns() {
		for n := range 7 {
			checkRowsWrong(t, p, impl.Rows{R: make([]int64, n)})
			checkRowsWrong(t, p, impl.Rows{R: slices.Repeat([]int64{7}, n)})
		}
	}
}

func TestRowsStepBehindNoByte(t *testing.T) {
	for _, fold := range []bool{false, true} {
		p := impl.Pattern{Text: allBytes()[60:80], K: 4, Fold: fold}
		for _, b := range notBytes() {
			if got := impl.RowsStep(p, impl.RowsNew(p), b); len(got.R) != 0 {
				t.Errorf("RowsStep behind %d, which is no byte, = %b", b, got.R)
			}
		}
	}
}

func TestRowsAreOnlyRead(t *testing.T) {
	p := impl.Pattern{Text: "abA", K: 2, Fold: true}
	for _, col := range unevenColumns(3, 2) {
		want := wantRows(col, 2).R
		held := impl.Rows{R: roomBehind(want)}
		first, again := impl.RowsStep(p, held, 'a'), impl.RowsStep(p, held, 'a')
		impl.RowsOk(p, held)
		impl.RowsDist(p, held)
		checkKept(t, held.R, want)
		if !slices.Equal(first.R, again.R) {
			t.Errorf("RowsStep(%b) = %b, and then %b", want, first.R, again.R)
		}
		clear(first.R)
		checkKept(t, held.R, want)
		if !impl.RowsOk(p, again) {
			t.Error("two answers share their rows")
		}
	}
	first, again := impl.RowsNew(p), impl.RowsNew(p)
	clear(first.R)
	if !slices.Equal(again.R, []int64{0, 1, 3}) {
		t.Error("two answers share their rows")
	}
}
