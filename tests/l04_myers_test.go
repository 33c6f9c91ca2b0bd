package tests

import (
	"math"
	"math/rand/v2"
	"slices"
	"strings"
	"testing"

	"loop.example/g00568/impl"
)

// wantMyers adds up the bits of a column.
func wantMyers(col []int64) impl.Myers {
	var m impl.Myers
	bit := int64(1)
	for i := 1; i < len(col); i++ {
		switch col[i] - col[i-1] {
		case 1:
			m.Up += bit
		case -1:
			m.Down += bit
		}
		bit *= 2
	}
	m.Score = col[len(col)-1]
	return m
}

func checkMyersStep(t *testing.T, p impl.Pattern, m impl.Myers, b int64, want impl.Myers) {
	t.Helper()
	if got := impl.MyersStep(p, m, b); got != want {
		t.Errorf("MyersStep(%+v, %+v, %d) = %+v, want %+v", p, m, b, got, want)
	}
}

func checkMyersWrong(t *testing.T, p impl.Pattern, m impl.Myers) {
	t.Helper()
	if impl.MyersOk(p, m) {
		t.Errorf("MyersOk(%+v, %+v) is true", p, m)
	}
	if got := impl.MyersCol(p, m); len(got) != 0 {
		t.Errorf("MyersCol(%+v, %+v) = %d", p, m, got)
	}
	checkMyersStep(t, p, m, 'a', impl.Myers{})
}

func checkMyersRight(t *testing.T, p impl.Pattern, m impl.Myers, col []int64) {
	t.Helper()
	if !impl.MyersOk(p, m) {
		t.Errorf("MyersOk(%+v, %+v) is false", p, m)
	}
	if got := impl.MyersCol(p, m); !slices.Equal(got, col) {
		t.Errorf("MyersCol(%+v, %+v) = %d, want %d", p, m, got, col)
	}
}

func TestMyersNew(t *testing.T) {
	for bytes := 1; bytes <= 20; bytes++ {
		for k := range int64(5) {
			p := impl.Pattern{Text: strings.Repeat("a", bytes), K: k, Fold: k == 1}
			if got := impl.MyersNew(p); got != wantMyers(impl.FirstCol(p)) || got.Score != int64(bytes) {
				t.Errorf("MyersNew(%+v) = %+v", p, got)
			}
			checkMyersRight(t, p, impl.MyersNew(p), impl.FirstCol(p))
		}
	}
	for _, p := range wrongPatterns() {
		if got := impl.MyersNew(p); got != (impl.Myers{}) {
			t.Errorf("MyersNew(%+v) = %+v", p, got)
		}
	}
}

func TestMyersStep(t *testing.T) {
	p := impl.Pattern{Text: "abc", K: 1}
	checkMyersStep(t, p, impl.Myers{Up: 7, Score: 3}, 'a', impl.Myers{Up: 6, Score: 2})
	checkMyersStep(t, p, impl.Myers{Up: 6, Score: 2}, 'c', impl.Myers{Up: 1, Score: 1})
	checkMyersStep(t, p, impl.Myers{Up: 6, Score: 2}, 'b', impl.Myers{Up: 5, Down: 2, Score: 1})
	checkMyersStep(t, p, impl.Myers{Up: 5, Down: 2, Score: 1}, 'c', impl.Myers{Up: 1, Down: 4})
	checkMyersStep(t, p, impl.Myers{Up: 7, Score: 3}, 'A', impl.Myers{Up: 7, Score: 3})
	p = impl.Pattern{Text: "a", K: 4, Fold: true}
	checkMyersStep(t, p, impl.Myers{Up: 1, Score: 1}, 'A', impl.Myers{})
	checkMyersStep(t, p, impl.Myers{}, 'A', impl.Myers{})
	checkMyersStep(t, p, impl.Myers{}, 'b', impl.Myers{Up: 1, Score: 1})
}

// TestMyersStepOfEachColumn steps each right column, those that no text leads
// to as well.
func TestMyersStepOfEachColumn(t *testing.T) {
	for _, text := range textsOf("aAb", 4)[1:] {
		for _, col := range rightColumns(len(text)) {
			for _, fold := range []bool{false, true} {
				p := impl.Pattern{Text: text, Fold: fold}
				m := wantMyers(col)
				checkMyersRight(t, p, m, col)
				for _, b := range []byte("aAbBc") {
					checkMyersStep(t, p, m, int64(b), wantMyers(wantNextCol(p, col, b)))
				}
			}
		}
	}
}

// TestMyersStepOfSomeLongColumns is for the carry, which may run through all
// places.
func TestMyersStepOfSomeLongColumns(t *testing.T) {
	r := rand.New(rand.NewPCG(4, 1))
	for range 5000 {
		p := somePattern(r, "aab", 1+r.IntN(20))
		col := []int64{0}
		for range len(p.Text) {
			col = append(col, max(0, col[len(col)-1]+min(1, int64(r.IntN(6))-1)))
		}
		m := wantMyers(col)
		checkMyersRight(t, p, m, col)
		for _, b := range []byte("aBc") {
			checkMyersStep(t, p, m, int64(b), wantMyers(wantNextCol(p, col, b)))
		}
	}
}

func checkMyersText(t *testing.T, p impl.Pattern, text string) {
	t.Helper()
	m, col := impl.MyersNew(p), impl.FirstCol(p)
	for i := range len(text) {
		m, col = impl.MyersStep(p, m, int64(text[i])), impl.NextCol(p, col, int64(text[i]))
		if m != wantMyers(col) {
			t.Fatalf("%+v behind %q is %+v, and its column %d", p, text[:i+1], m, col)
		}
		checkMyersRight(t, p, m, col)
	}
}

func TestMyersThroughWholeTexts(t *testing.T) {
	full := "aAbB[{\x00\xff\x7f\x80aabbccddZz"
	for _, p := range []impl.Pattern{
		{Text: "a"}, {Text: "a", K: 4}, {Text: "A", Fold: true}, {Text: full[:20]}, {Text: full[:20], K: 4, Fold: true},
		{Text: strings.Repeat("a", 20), K: 3}, {Text: strings.Repeat("ab", 10), K: 2, Fold: true}, {Text: "\xff"}, {Text: "\x00\x00", K: 1},
	} {
		for _, text := range []string{"", "a", "aaaaaaaaaabbbbbbbbbb", full, strings.Repeat("aB", 50), strings.Repeat("a", 30) + strings.Repeat("b", 30), allBytes(), full + full + full} {
			checkMyersText(t, p, text)
		}
	}
	r := rand.New(rand.NewPCG(4, 2))
	for range 100 {
		checkMyersText(t, somePattern(r, "abAB", 1+r.IntN(20)), someText(r, "abABc", r.IntN(200)))
	}
}

// TestMyersOkOfEachFewBits goes through all bits of short texts, and some more.
func TestMyersOkOfEachFewBits(t *testing.T) {
	for bytes := 1; bytes <= 3; bytes++ {
		p := impl.Pattern{Text: "abc"[:bytes], K: 1}
		right := map[impl.Myers][]int64{}
		for _, col := range rightColumns(bytes) {
			right[wantMyers(col)] = col
		}
		count := 0
		for up := int64(-2); up < 18; up++ {
			for down := int64(-2); down < 18; down++ {
				for score := int64(-4); score < 6; score++ {
					m := impl.Myers{Up: up, Down: down, Score: score}
					if col, ok := right[m]; ok {
						checkMyersRight(t, p, m, col)
						count++
					} else {
						checkMyersWrong(t, p, m)
					}
				}
			}
		}
		if count != len(right) {
			t.Errorf("%d of %d were met", count, len(right))
		}
	}
}

func TestMyersOkOfWhatIsNotRight(t *testing.T) {
	p := impl.Pattern{Text: strings.Repeat("a", 20), K: 2}
	all := int64(1<<20 - 1)
	checkMyersRight(t, p, impl.Myers{}, make([]int64, 21))
	checkMyersRight(t, p, impl.Myers{Up: 1 << 18, Down: 1 << 19}, append(make([]int64, 19), 1, 0))
	for _, m := range []impl.Myers{
		{Up: all + 1, Score: 1}, {Up: 2*all + 1, Score: 20}, {Up: 1 << 62, Score: 1}, {Up: 1 << 32, Score: 1}, // bits beyond Text's
		{Down: 1 << 20}, {Up: 1, Down: 1 << 20}, {Up: 1, Down: 1 << 33},
		{Up: -1, Score: 20}, {Up: -1, Score: -1}, {Up: math.MinInt64}, {Up: 1, Down: math.MinInt64}, {Up: math.MinInt64 + 1, Score: 1}, {Down: -1}, {Down: -1, Score: -20},
		{Up: all, Down: all}, {Up: 1 << 19, Down: 1 << 19}, {Up: 3, Down: 2, Score: 1}, {Up: 3, Down: 2, Score: 2}, // a bit in both
		{Up: all, Score: 19}, {Up: all, Score: 21}, {Up: all}, {Score: 1}, {Score: -1}, {Up: 1, Score: 1 + 1<<32}, {Score: math.MaxInt64}, {Score: math.MinInt64}, // another Score
		{Down: 1, Score: -1}, {Up: 2, Down: 1}, {Up: 1, Down: 6, Score: -1}, {Up: 9, Down: 6}, // below 0
	} {
		checkMyersWrong(t, p, m)
	}
	for _, p := range wrongPatterns() {
		checkMyersWrong(t, p, impl.Myers{})
		checkMyersWrong(t, p, impl.Myers{Up: 1, Score: 1})
		checkMyersWrong(t, p, impl.Myers{Up: 7, Score: 3})
	}
}

func TestMyersStepBehindNoByte(t *testing.T) {
	for _, fold := range []bool{false, true} {
		p := impl.Pattern{Text: allBytes()[60:80], K: 1, Fold: fold}
		for _, b := range notBytes() {
			checkMyersStep(t, p, impl.MyersNew(p), b, impl.Myers{})
		}
	}
}

func TestMyersColsAreNewMemory(t *testing.T) {
	p := impl.Pattern{Text: "abc", K: 1}
	first, again := impl.MyersCol(p, impl.MyersNew(p)), impl.MyersCol(p, impl.MyersNew(p))
	clear(first)
	if !slices.Equal(again, []int64{0, 1, 2, 3}) {
		t.Error("two columns share their numbers")
	}
}
