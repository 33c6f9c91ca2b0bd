package tests

import (
	"math"
	"math/rand/v2"
	"slices"
	"strings"
	"testing"

	"loop.example/g00568/impl"
)

// wrongPatterns are patterns that are not right, each for one reason.
func wrongPatterns() []impl.Pattern {
	return []impl.Pattern{
		{}, {K: 4}, {Text: strings.Repeat("a", 21), K: 1}, {Text: strings.Repeat("a", 201)},
		{Text: "abc", K: -1}, {Text: "abc", K: 5}, {Text: "abc", K: math.MaxInt64}, {Text: "abc", K: math.MinInt64, Fold: true},
	}
}

// textsOf gives all texts of at most so many of the bytes, shortest first.
func textsOf(parts string, most int) []string {
	texts := []string{""}
	for from := 0; len(texts[from]) < most; from++ {
		for i := range len(parts) {
			texts = append(texts, texts[from]+parts[i:i+1])
		}
	}
	return texts
}

// listsOf gives all lists of at most so many of the numbers from .. to, shortest
// first.
func listsOf(from int64, to int64, most int) [][]int64 {
	lists := [][]int64{nil}
	for at := 0; len(lists[at]) < most; at++ {
		for n := from; n <= to; n++ {
			lists = append(lists, append(slices.Clone(lists[at]), n))
		}
	}
	return lists
}

// someText is the same for the same numbers.
func someText(r *rand.Rand, parts string, length int) string {
	text := make([]byte, length)
	for i := range text {
		text[i] = parts[r.IntN(len(parts))]
	}
	return string(text)
}

func somePattern(r *rand.Rand, parts string, length int) impl.Pattern {
	return impl.Pattern{Text: someText(r, parts, length), K: int64(r.IntN(5)), Fold: r.IntN(2) == 0}
}

// textsFor gives texts in which the pattern's text stands, with faults and
// without, and others.
func textsFor(r *rand.Rand, p impl.Pattern) []string {
	last := len(p.Text) - 1
	return []string{p.Text, someText(r, "abABc", 150), strings.ToUpper(p.Text) + p.Text[1:] + p.Text[:last] + p.Text, allBytes()}
}

// rightColumns gives all columns of a text of so many bytes that are right.
func rightColumns(bytes int) [][]int64 {
	columns := [][]int64{{0}}
	for range bytes {
		var longer [][]int64
		for _, col := range columns {
			last := col[len(col)-1]
			for n := max(last-1, 0); n <= last+1; n++ {
				longer = append(longer, append(slices.Clone(col), n))
			}
		}
		columns = longer
	}
	return columns
}

// wantNext says a column's number behind a byte as the document does, place by
// place back to the first one.
func wantNext(p impl.Pattern, col []int64, b byte, place int) int64 {
	if place == 0 {
		return 0
	}
	turned := col[place-1]
	if x := p.Text[place-1]; x != b && !(p.Fold && wantFold(int64(x)) == wantFold(int64(b))) {
		turned++
	}
	return min(turned, col[place]+1, wantNext(p, col, b, place-1)+1)
}

func wantNextCol(p impl.Pattern, col []int64, b byte) []int64 {
	next := make([]int64, len(col))
	for place := range next {
		next[place] = wantNext(p, col, b, place)
	}
	return next
}

// nearest gives by how much the nearest of all pieces that end at a place
// differs from want.
func nearest(want string, text string, end int, fold bool) int64 {
	least := int64(math.MaxInt64)
	for from := 0; from <= end; from++ {
		least = min(least, impl.Distance(want, text[from:end], fold))
	}
	return least
}

func wantEnds(p impl.Pattern, text string) []impl.End {
	var ends []impl.End
	for end := range len(text) + 1 {
		if d := nearest(p.Text, text, end, p.Fold); d <= p.K {
			ends = append(ends, impl.End{At: int64(end), Dist: d})
		}
	}
	return ends
}

func checkDistance(t *testing.T, a string, b string, fold bool, want int64) {
	t.Helper()
	if got := impl.Distance(a, b, fold); got != want {
		t.Errorf("Distance(%q, %q, %v) = %d, want %d", a, b, fold, got, want)
	}
	if got := impl.Distance(b, a, fold); got != want {
		t.Errorf("Distance(%q, %q, %v) = %d, want %d", b, a, fold, got, want)
	}
}

func TestDistance(t *testing.T) {
	for _, c := range []struct {
		a, b           string
		asItIs, folded int64
	}{
		{"", "", 0, 0},
		{"", "a", 1, 1},
		{"abc", "", 3, 3},
		{"abc", "abc", 0, 0},
		{"abc", "abd", 1, 1},
		{"abc", "ac", 1, 1},
		{"abc", "bc", 1, 1},
		{"abc", "xabc", 1, 1},
		{"abc", "cab", 2, 2},
		{"ab", "ba", 2, 2},
		{"kitten", "sitting", 3, 3},
		{"Kitten", "sITTing", 6, 3},
		{"AB", "ab", 2, 0},
		{"aXb", "Axb", 2, 0},
		{"[", "{", 1, 1},
		{"@", "`", 1, 1},
		{"\xc1", "\xe1", 1, 1},
		{"\x00", "\xff", 1, 1},
		{"\u00e4", "a", 2, 2},
		{"abcdefgh", "hgfedcba", 8, 8},
		{"sunday", "saturday", 3, 3},
	} {
		checkDistance(t, c.a, c.b, false, c.asItIs)
		checkDistance(t, c.a, c.b, true, c.folded)
	}
}

func TestDistanceOfLongTexts(t *testing.T) {
	full := strings.Repeat("ab", 100)
	for _, fold := range []bool{false, true} {
		checkDistance(t, full, full, fold, 0)
		checkDistance(t, full, "", fold, 200)
		checkDistance(t, full, full[1:], fold, 1)
		checkDistance(t, full, full[1:]+"a", fold, 2)
		checkDistance(t, full, strings.Repeat("c", 200), fold, 200)
		for _, long := range []string{full + "a", strings.Repeat("a", 401), strings.Repeat("\x00", 456)} {
			checkDistance(t, long, "", fold, -1)
			checkDistance(t, long, full, fold, -1)
			checkDistance(t, long, long, fold, -1)
		}
	}
	checkDistance(t, full, strings.ToUpper(full), false, 200)
	checkDistance(t, full, strings.ToUpper(full), true, 0)
}

// TestDistanceIsTheLeast goes out from each short text, one byte put in, left
// out or changed at a time, and looks in which round it meets the others.
func TestDistanceIsTheLeast(t *testing.T) {
	for _, a := range textsOf("abc", 3) {
		rounds := map[string]int64{a: 0}
		for wait := []string{a}; len(wait) > 0; wait = wait[1:] {
			s := wait[0]
			meet := func(to string) {
				if _, met := rounds[to]; !met && len(to) <= 4 {
					rounds[to] = rounds[s] + 1
					wait = append(wait, to)
				}
			}
			for at := range len(s) + 1 {
				for _, x := range []string{"a", "b", "c"} {
					meet(s[:at] + x + s[at:])
					if at < len(s) {
						meet(s[:at] + x + s[at+1:])
					}
				}
				if at < len(s) {
					meet(s[:at] + s[at+1:])
				}
			}
		}
		for b, want := range rounds {
			checkDistance(t, a, b, false, want)
		}
	}
}

// TestDistanceByWayOfAThird: from one text to another it is as far as back, and
// no farther than by way of a third.
func TestDistanceByWayOfAThird(t *testing.T) {
	for _, fold := range []bool{false, true} {
		texts := textsOf("aAb", 3)
		far := make([][]int64, len(texts))
		for i, a := range texts {
			for j, b := range texts {
				far[i] = append(far[i], impl.Distance(a, b, fold))
				if (far[i][j] == 0) != impl.Alike(a, b, fold) {
					t.Errorf("Distance(%q, %q, %v) = %d", a, b, fold, far[i][j])
				}
			}
		}
		for i, a := range texts {
			for j, b := range texts {
				if far[i][j] != far[j][i] {
					t.Errorf("%q is %d from %q, and that %d from it", a, far[i][j], b, far[j][i])
				}
				for k, c := range texts {
					if far[i][k] > far[i][j]+far[j][k] {
						t.Errorf("from %q it is nearer to %q by way of %q", a, c, b)
					}
				}
			}
		}
	}
}

func TestDistanceOfSomeTexts(t *testing.T) {
	r := rand.New(rand.NewPCG(3, 1))
	for range 300 {
		a, b, c := someText(r, "abAB", r.IntN(201)), someText(r, "abAB", r.IntN(201)), someText(r, "abAB", r.IntN(201))
		if impl.Distance(a, c, false) > impl.Distance(a, b, false)+impl.Distance(b, c, false) {
			t.Errorf("from %q it is nearer to %q by way of %q", a, c, b)
		}
		checkDistance(t, a, b, true, impl.Distance(impl.Folded(a), impl.Folded(b), false))
		checkDistance(t, a, b, false, impl.Distance(b, a, false))
		at := r.IntN(len(a) + 1)
		checkDistance(t, a[:at], a, false, int64(len(a)-at))
	}
}

func TestFirstCol(t *testing.T) {
	var want []int64
	for bytes := range 21 {
		want = append(want, int64(bytes))
		for k := range int64(5) {
			p := impl.Pattern{Text: strings.Repeat("a", bytes), K: k, Fold: k%2 == 0}
			got := impl.FirstCol(p)
			if bytes == 0 && len(got) != 0 || bytes > 0 && !slices.Equal(got, want) {
				t.Errorf("FirstCol(%+v) = %d", p, got)
			}
			if impl.ColOk(p, want) != (bytes > 0) {
				t.Errorf("ColOk of the first column of %+v is %v", p, bytes == 0)
			}
		}
	}
	for _, p := range wrongPatterns() {
		if got := impl.FirstCol(p); len(got) != 0 {
			t.Errorf("FirstCol(%+v) = %d", p, got)
		}
	}
}

func TestNextCol(t *testing.T) {
	p := impl.Pattern{Text: "abc", K: 1}
	folding := impl.Pattern{Text: "aBc", Fold: true}
	for _, c := range []struct {
		p    impl.Pattern
		col  []int64
		b    int64
		want []int64
	}{
		{p, []int64{0, 1, 2, 3}, 'a', []int64{0, 0, 1, 2}},
		{p, []int64{0, 1, 2, 3}, 'x', []int64{0, 1, 2, 3}},
		{p, []int64{0, 1, 2, 3}, 'A', []int64{0, 1, 2, 3}},
		{p, []int64{0, 0, 1, 2}, 'c', []int64{0, 1, 1, 1}},
		{p, []int64{0, 0, 1, 2}, 'b', []int64{0, 1, 0, 1}},
		{p, []int64{0, 1, 0, 1}, 'c', []int64{0, 1, 1, 0}},
		{p, []int64{0, 0, 0, 0}, 'x', []int64{0, 1, 1, 1}},
		{folding, []int64{0, 1, 2, 3}, 'A', []int64{0, 0, 1, 2}},
		{folding, []int64{0, 0, 1, 2}, 'b', []int64{0, 1, 0, 1}},
		{folding, []int64{0, 1, 0, 1}, 'C', []int64{0, 1, 1, 0}},
		{impl.Pattern{Text: "a", K: 4}, []int64{0, 1}, 'a', []int64{0, 0}},
		{impl.Pattern{Text: "\x00\xff", K: 4}, []int64{0, 1, 2}, 255, []int64{0, 1, 1}},
		{impl.Pattern{Text: "\x00\xff", K: 4}, []int64{0, 1, 2}, 0, []int64{0, 0, 1}},
	} {
		if got := impl.NextCol(c.p, c.col, c.b); !slices.Equal(got, c.want) {
			t.Errorf("NextCol(%+v, %d, %d) = %d, want %d", c.p, c.col, c.b, got, c.want)
		}
	}
}

// TestNextColOfEachColumn steps each right column, those that no text leads to
// as well.
func TestNextColOfEachColumn(t *testing.T) {
	for _, text := range textsOf("aAb", 4)[1:] {
		for _, col := range rightColumns(len(text)) {
			for _, fold := range []bool{false, true} {
				p := impl.Pattern{Text: text, K: int64(len(col) % 5), Fold: fold}
				for _, b := range []byte("aAbBc") {
					next := impl.NextCol(p, col, int64(b))
					if !impl.ColOk(p, col) || !impl.ColOk(p, next) || !slices.Equal(next, wantNextCol(p, col, b)) {
						t.Fatalf("NextCol(%+v, %d, %q) = %d, want %d", p, col, b, next, wantNextCol(p, col, b))
					}
				}
			}
		}
	}
}

func TestNextColOfWhatIsNotRight(t *testing.T) {
	for _, p := range wrongPatterns() {
		col := make([]int64, len(p.Text)+1)
		if got := impl.NextCol(p, col, 'a'); len(got) != 0 || impl.ColOk(p, col) {
			t.Errorf("NextCol(%+v) = %d", p, got)
		}
	}
	for _, fold := range []bool{false, true} {
		p := impl.Pattern{Text: allBytes()[60:80], K: 4, Fold: fold}
		for _, b := range notBytes() {
			if got := impl.NextCol(p, impl.FirstCol(p), b); len(got) != 0 {
				t.Errorf("NextCol behind %d, which is no byte, = %d", b, got)
			}
		}
	}
}

func TestColOkOfEachShortColumn(t *testing.T) {
	p := impl.Pattern{Text: "ab", K: 1}
	numbers := []int64{math.MinInt64, math.MinInt64 + 1, -2, -1, 0, 1, 2, 3, 1 << 32, math.MaxInt64 - 1, math.MaxInt64}
	right := rightColumns(2)
	count := 0
	for _, a := range numbers {
		for _, b := range numbers {
			for _, c := range numbers {
				col := []int64{a, b, c}
				want := slices.ContainsFunc(right, func(x []int64) bool { return slices.Equal(x, col) })
				if got := impl.ColOk(p, col); got != want {
					t.Errorf("ColOk(%d) is %v", col, got)
				}
				if got := impl.NextCol(p, col, 'a'); (len(got) == 3) != want || !want && len(got) != 0 {
					t.Errorf("NextCol of %d = %d", col, got)
				}
				if want {
					count++
				}
			}
		}
	}
	if count != 5 { // 000 001 010 011 012
		t.Errorf("%d columns are right", count)
	}
}

func TestColOkOfAnotherLength(t *testing.T) {
	for bytes := 1; bytes <= 20; bytes++ {
		p := impl.Pattern{Text: strings.Repeat("a", bytes), K: 2}
		for numbers := range 25 {
			col := make([]int64, numbers)
			if impl.ColOk(p, col) != (numbers == bytes+1) {
				t.Errorf("ColOk of %d numbers for %d bytes is wrong", numbers, bytes)
			}
			if got := impl.NextCol(p, col, 'b'); (len(got) != 0) != (numbers == bytes+1) {
				t.Errorf("NextCol of %d numbers for %d bytes = %d", numbers, bytes, got)
			}
		}
		for at := range bytes + 1 {
			for _, wrong := range []int64{-1, 2, math.MaxInt64, math.MinInt64} {
				col := make([]int64, bytes+1)
				col[at] = wrong
				if impl.ColOk(p, col) {
					t.Errorf("ColOk(%d) is true", col)
				}
			}
		}
	}
}

// TestColumnsHaveTheNearest: each number of a column is by how much the nearest
// of all pieces that end there differs from that beginning.
func TestColumnsHaveTheNearest(t *testing.T) {
	r := rand.New(rand.NewPCG(3, 2))
	for range 60 {
		p := somePattern(r, "abAB", 1+r.IntN(20))
		text := someText(r, "abABc", r.IntN(25))
		col := impl.FirstCol(p)
		for end := range len(text) + 1 {
			for place, n := range col {
				if want := nearest(p.Text[:place], text, end, p.Fold); n != want {
					t.Errorf("%+v has %d at %d behind %q, want %d", p, n, place, text[:end], want)
				}
			}
			if end < len(text) {
				col = impl.NextCol(p, col, int64(text[end]))
			}
		}
	}
}

func checkEnds(t *testing.T, p impl.Pattern, text string, want []impl.End) {
	t.Helper()
	if got := impl.EndsOf(p, text); !slices.Equal(got, want) {
		t.Errorf("EndsOf(%+v, %q) = %+v, want %+v", p, text, got, want)
	}
}

func TestEndsOf(t *testing.T) {
	for _, c := range []struct {
		p    impl.Pattern
		text string
		want []impl.End
	}{
		{impl.Pattern{Text: "abc", K: 1}, "xacyabcz", []impl.End{{At: 3, Dist: 1}, {At: 6, Dist: 1}, {At: 7}, {At: 8, Dist: 1}}},
		{impl.Pattern{Text: "abc"}, "xacyabcz", []impl.End{{At: 7}}},
		{impl.Pattern{Text: "abc"}, "ABCaBcabc", []impl.End{{At: 9}}},
		{impl.Pattern{Text: "aBc", Fold: true}, "ABCaBcabc", []impl.End{{At: 3}, {At: 6}, {At: 9}}},
		{impl.Pattern{Text: "aa"}, "aaaa", []impl.End{{At: 2}, {At: 3}, {At: 4}}},
		{impl.Pattern{Text: "a"}, "", nil},
		{impl.Pattern{Text: "a", K: 1}, "", []impl.End{{Dist: 1}}},
		{impl.Pattern{Text: "a", K: 1}, "b", []impl.End{{Dist: 1}, {At: 1, Dist: 1}}},
		{impl.Pattern{Text: "a", K: 4}, "ba", []impl.End{{Dist: 1}, {At: 1, Dist: 1}, {At: 2}}},
		{impl.Pattern{Text: "abcd", K: 4}, "", []impl.End{{Dist: 4}}},
		{impl.Pattern{Text: "abcd", K: 3}, "", nil},
		{impl.Pattern{Text: "abcd", K: 3}, "d", []impl.End{{At: 1, Dist: 3}}},
		{impl.Pattern{Text: "abcd", K: 4}, "x", []impl.End{{Dist: 4}, {At: 1, Dist: 4}}},
		{impl.Pattern{Text: "\x00\xff"}, "\xff\x00\xff", []impl.End{{At: 3}}},
		{impl.Pattern{Text: "{", Fold: true}, "[{", []impl.End{{At: 2}}},
	} {
		checkEnds(t, c.p, c.text, c.want)
	}
}

func TestEndsOfEachShortText(t *testing.T) {
	for _, text := range textsOf("aAb", 5) {
		for _, want := range textsOf("ab", 3)[1:] {
			for k := range int64(5) {
				for _, fold := range []bool{false, true} {
					p := impl.Pattern{Text: want, K: k, Fold: fold}
					checkEnds(t, p, text, wantEnds(p, text))
				}
			}
		}
	}
}

// TestMoreFaultsLoseNothing: what is an end with fewer faults is the same end
// with more, and with as many as Text has bytes every place is one.
func TestMoreFaultsLoseNothing(t *testing.T) {
	r := rand.New(rand.NewPCG(3, 3))
	for range 100 {
		p := somePattern(r, "abA", 1+r.IntN(20))
		text := someText(r, "abAB", r.IntN(201))
		var fewer []impl.End
		for p.K = 0; p.K <= impl.MaxK; p.K++ {
			ends := impl.EndsOf(p, text)
			kept := slices.DeleteFunc(slices.Clone(ends), func(e impl.End) bool { return e.Dist >= p.K })
			if p.K > 0 && !slices.Equal(kept, fewer) {
				t.Errorf("%+v in %q has the ends %+v, with one fault less %+v", p, text, ends, fewer)
			}
			if p.K >= int64(len(p.Text)) && len(ends) != len(text)+1 {
				t.Errorf("%+v in %q has the ends %+v", p, text, ends)
			}
			fewer = ends
		}
	}
}

func TestEndsOfLongTexts(t *testing.T) {
	most := strings.Repeat("a", impl.MaxText)
	for _, p := range []impl.Pattern{{Text: "a"}, {Text: "A", Fold: true}, {Text: "b", K: 1}, {Text: "b", K: 4}, {Text: most[:20], K: 4}} {
		ends := impl.EndsOf(p, most)
		if len(ends) == 0 || ends[len(ends)-1].At != 200 {
			t.Errorf("EndsOf(%+v) of %d bytes = %+v", p, len(most), ends)
		}
		for _, text := range []string{most + "a", strings.Repeat("a", 300), strings.Repeat("a", 456), strings.Repeat("a", 65536)} {
			if ends := impl.EndsOf(p, text); len(ends) != 0 {
				t.Errorf("EndsOf(%+v) of %d bytes = %+v", p, len(text), ends)
			}
		}
	}
	for _, p := range wrongPatterns() {
		for _, text := range []string{"", "a", "abc", most, most + "a"} {
			if ends := impl.EndsOf(p, text); len(ends) != 0 {
				t.Errorf("EndsOf(%+v) = %+v", p, ends)
			}
		}
	}
}

// roomBehind gives the numbers with spare room behind them that is written full.
func roomBehind(l []int64) []int64 {
	long := append(slices.Clone(l), 77, 77, 77, 77, 77, 77, 77, 77)
	return long[:len(l)]
}

// checkKept looks whether l is still want, and what roomBehind wrote is too.
func checkKept(t *testing.T, l []int64, want []int64) {
	t.Helper()
	behind := l[len(l) : len(l)+8]
	if !slices.Equal(l, want) || !slices.Equal(behind, slices.Repeat([]int64{77}, 8)) {
		t.Errorf("%d has become %d, and behind it stands %d", want, l, behind)
	}
}

func TestColumnsAreOnlyRead(t *testing.T) {
	for _, p := range []impl.Pattern{{Text: "abA", K: 1}, {Text: "abA", K: 4, Fold: true}} {
		for _, col := range rightColumns(3) {
			held := roomBehind(col)
			first := impl.NextCol(p, held, 'a')
			again := impl.NextCol(p, held, 'a')
			impl.ColOk(p, held)
			checkKept(t, held, col)
			if !slices.Equal(first, again) {
				t.Errorf("NextCol(%+v, %d) = %d, and then %d", p, col, first, again)
			}
			clear(first)
			checkKept(t, held, col)
			if !slices.Equal(again, impl.NextCol(p, held, 'a')) {
				t.Error("two answers share their numbers")
			}
		}
		first, again := impl.FirstCol(p), impl.FirstCol(p)
		clear(first)
		if !slices.Equal(again, []int64{0, 1, 2, 3}) {
			t.Error("two first columns share their numbers")
		}
		ends, more := impl.EndsOf(p, "xabax"), impl.EndsOf(p, "xabax")
		if !slices.Equal(ends, more) {
			t.Errorf("EndsOf = %+v, and then %+v", ends, more)
		}
		clear(ends)
		if slices.Equal(ends, more) {
			t.Error("two lists of ends share their places")
		}
	}
}
