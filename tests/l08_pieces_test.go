package tests

import (
	"math"
	"math/rand/v2"
	"slices"
	"strings"
	"testing"
	"unsafe"

	"loop.example/g00568/impl"
)

// eachPattern gives patterns of each length with each number of faults, that
// fold and that do not.
func eachPattern() []impl.Pattern {
	var all []impl.Pattern
	for length := 1; length <= 20; length++ {
		for k := range int64(5) {
			all = append(all, impl.Pattern{Text: "abcdefghijklmnopqrst"[:length], K: k}, impl.Pattern{Text: "AbabABBaabbaABABabab"[:length], K: k, Fold: true})
		}
	}
	return all
}

func TestAlways(t *testing.T) {
	for _, p := range eachPattern() {
		if got := impl.Always(p); got != (int(p.K) >= len(p.Text)) {
			t.Errorf("Always(%+v) is %v", p, got)
		}
	}
	for _, p := range []impl.Pattern{{Text: "a", K: 1}, {Text: "ab", K: 2}, {Text: "ab", K: 3}, {Text: "abcd", K: 4, Fold: true}} {
		if !impl.Always(p) {
			t.Errorf("Always(%+v) is false", p)
		}
	}
	for _, p := range append(wrongPatterns(), impl.Pattern{Text: "a"}, impl.Pattern{Text: "ab", K: 1}, impl.Pattern{Text: "abcde", K: 4}, impl.Pattern{K: 1}, impl.Pattern{Text: "a", K: 5}) {
		if impl.Always(p) {
			t.Errorf("Always(%+v) is true", p)
		}
	}
}

func TestPiecesOf(t *testing.T) {
	for _, c := range []struct {
		p    impl.Pattern
		want []impl.Piece
	}{
		{impl.Pattern{Text: "abcdefg", K: 2}, []impl.Piece{{At: 0, Text: "ab"}, {At: 2, Text: "cd"}, {At: 4, Text: "efg"}}},
		{impl.Pattern{Text: "abcdefg"}, []impl.Piece{{At: 0, Text: "abcdefg"}}},
		{impl.Pattern{Text: "a"}, []impl.Piece{{At: 0, Text: "a"}}},
		{impl.Pattern{Text: "aB", K: 1, Fold: true}, []impl.Piece{{At: 0, Text: "a"}, {At: 1, Text: "B"}}},
		{impl.Pattern{Text: "abcde", K: 3}, []impl.Piece{{At: 0, Text: "a"}, {At: 1, Text: "b"}, {At: 2, Text: "c"}, {At: 3, Text: "de"}}},
		{impl.Pattern{Text: "abcdefghijklmnopqrst", K: 4}, []impl.Piece{{At: 0, Text: "abcd"}, {At: 4, Text: "efgh"}, {At: 8, Text: "ijkl"}, {At: 12, Text: "mnop"}, {At: 16, Text: "qrst"}}},
		{impl.Pattern{Text: "\x00\xff\x00", K: 1}, []impl.Piece{{At: 0, Text: "\x00"}, {At: 1, Text: "\xff\x00"}}},
		{impl.Pattern{Text: "abcd", K: 4}, nil},
		{impl.Pattern{Text: "abc", K: 4}, nil},
		{impl.Pattern{Text: "a", K: 1}, nil},
	} {
		if got := impl.PiecesOf(c.p); !slices.Equal(got, c.want) {
			t.Errorf("PiecesOf(%+v) = %+v, want %+v", c.p, got, c.want)
		}
	}
	for _, p := range wrongPatterns() {
		if got := impl.PiecesOf(p); len(got) != 0 {
			t.Errorf("PiecesOf(%+v) = %+v", p, got)
		}
	}
}

// TestPiecesMakeUpThePattern: there is one more than there may be faults, none
// is empty, and each begins where the one ahead ends.
func TestPiecesMakeUpThePattern(t *testing.T) {
	for _, p := range eachPattern() {
		pieces := impl.PiecesOf(p)
		if impl.Always(p) {
			if len(pieces) != 0 {
				t.Errorf("PiecesOf(%+v) = %+v", p, pieces)
			}
			continue
		}
		whole := ""
		for i, x := range pieces {
			if x.At != int64(len(whole)) || x.At != int64(i)*int64(len(p.Text))/(p.K+1) || x.Text == "" {
				t.Errorf("PiecesOf(%+v) = %+v", p, pieces)
			}
			whole += x.Text
		}
		if whole != p.Text || int64(len(pieces)) != p.K+1 {
			t.Errorf("PiecesOf(%+v) = %+v", p, pieces)
		}
	}
}

func checkWindow(t *testing.T, p impl.Pattern, x impl.Piece, end int64, want impl.Span) {
	t.Helper()
	if got := impl.WindowOf(p, x, end); got != want {
		t.Errorf("WindowOf(%+v, %+v, %d) = %+v, want %+v", p, x, end, got, want)
	}
}

func TestWindowOf(t *testing.T) {
	p := impl.Pattern{Text: "abcdefg", K: 2}
	none := impl.Pattern{Text: "abc"}
	for _, c := range []struct {
		p    impl.Pattern
		x    impl.Piece
		end  int64
		want impl.Span
	}{
		{p, impl.Piece{At: 2, Text: "cd"}, 10, impl.Span{From: 4, To: 15}},
		{p, impl.Piece{At: 2, Text: "cd"}, 7, impl.Span{From: 1, To: 12}},
		{p, impl.Piece{At: 2, Text: "cd"}, 6, impl.Span{From: 0, To: 11}},
		{p, impl.Piece{At: 2, Text: "cd"}, 5, impl.Span{From: 0, To: 10}},
		{p, impl.Piece{At: 2, Text: "cd"}, 2, impl.Span{From: 0, To: 7}},
		{p, impl.Piece{At: 2, Text: "cd"}, 1, impl.Span{}}, // ahead of where it can end
		{p, impl.Piece{At: 0, Text: "ab"}, 10, impl.Span{From: 6, To: 17}},
		{p, impl.Piece{At: 4, Text: "efg"}, 10, impl.Span{From: 1, To: 12}},
		{p, impl.Piece{At: 4, Text: "efg"}, 3, impl.Span{From: 0, To: 5}},
		{p, impl.Piece{At: 4, Text: "efg"}, 2, impl.Span{}},
		{none, impl.Piece{At: 0, Text: "abc"}, 3, impl.Span{From: 0, To: 3}},
		{none, impl.Piece{At: 0, Text: "abc"}, 8, impl.Span{From: 5, To: 8}},
		{none, impl.Piece{At: 0, Text: "abc"}, 2, impl.Span{}},
		{impl.Pattern{Text: "ab", K: 4}, impl.Piece{At: 1, Text: "b"}, 9, impl.Span{From: 3, To: 13}}, // Always
	} {
		checkWindow(t, c.p, c.x, c.end, c.want)
	}
}

func TestWindowOfEachPiece(t *testing.T) {
	for _, p := range eachPattern() {
		length := int64(len(p.Text))
		for at := range length {
			for to := at + 1; to <= length; to++ {
				x := impl.Piece{At: at, Text: p.Text[at:to]}
				own := to - at
				for _, end := range []int64{own, own + 1, to, to + p.K, to + p.K + 1, 100, impl.MaxOffset - 1, impl.MaxOffset} {
					want := impl.Span{From: end - to - p.K, To: end + length - to + p.K}
					if want.From < 0 {
						want.From = 0
					}
					if end >= own {
						checkWindow(t, p, x, end, want)
					}
				}
				for _, end := range []int64{own - 1, 0, -1, math.MinInt64, impl.MaxOffset + 1, 1 << 32, math.MaxInt64} {
					checkWindow(t, p, x, end, impl.Span{})
				}
			}
		}
	}
}

func TestWindowOfWhatDoesNotFit(t *testing.T) {
	p := impl.Pattern{Text: "abcdefg", K: 2}
	for _, at := range []int64{math.MinInt64, -100, -2, -1, 6, 7, 8, 400, 1 << 32, math.MaxInt64 - 2, math.MaxInt64} {
		checkWindow(t, p, impl.Piece{At: at, Text: "ab"}, 100, impl.Span{})
	}
	for at := range int64(9) {
		checkWindow(t, p, impl.Piece{At: at, Text: "abcdefgh"}, 100, impl.Span{})
		checkWindow(t, p, impl.Piece{At: at, Text: strings.Repeat("a", 300)}, 1000, impl.Span{})
		if at > 0 {
			checkWindow(t, p, impl.Piece{At: at, Text: "abcdefg"}, 100, impl.Span{})
		}
	}
	checkWindow(t, p, impl.Piece{At: 0, Text: "abcdefg"}, 100, impl.Span{From: 91, To: 102})
	checkWindow(t, p, impl.Piece{At: 5, Text: "fg"}, 100, impl.Span{From: 91, To: 102})
	// a piece without bytes fits as far as behind the last one
	checkWindow(t, p, impl.Piece{At: 7}, 0, impl.Span{From: 0, To: 2})
	checkWindow(t, p, impl.Piece{At: 7}, 100, impl.Span{From: 91, To: 102})
	checkWindow(t, p, impl.Piece{At: 8}, 100, impl.Span{})
	checkWindow(t, p, impl.Piece{At: -1}, 100, impl.Span{})
	checkWindow(t, p, impl.Piece{At: 0}, -1, impl.Span{})
	for _, p := range wrongPatterns() {
		checkWindow(t, p, impl.Piece{}, 10, impl.Span{})
		checkWindow(t, p, impl.Piece{Text: "a"}, 10, impl.Span{})
	}
}

// wantWindows marks the bytes that are in some window, and tells the runs of
// them.
func wantWindows(p impl.Pattern, text string) []impl.Span {
	length, faults := len(p.Text), int(p.K)
	marked := make([]bool, len(text)+1) // one more, which ends the last run
	for i := range faults + 1 {
		from, to := i*length/(faults+1), (i+1)*length/(faults+1)
		for start := 0; start+to-from <= len(text); start++ {
			if !impl.Alike(text[start:start+to-from], p.Text[from:to], p.Fold) {
				continue
			}
			for at := max(start-from-faults, 0); at < min(start-from+length+faults, len(text)); at++ {
				marked[at] = true
			}
		}
	}
	var runs []impl.Span
	for at, is := range marked {
		was := at > 0 && marked[at-1]
		if is && !was {
			runs = append(runs, impl.Span{From: int64(at)})
		} else if was && !is {
			runs[len(runs)-1].To = int64(at)
		}
	}
	return runs
}

func checkWindows(t *testing.T, p impl.Pattern, text string, want []impl.Span) {
	t.Helper()
	if got := impl.Windows(p, text); !slices.Equal(got, want) {
		t.Errorf("Windows(%+v, %q) = %+v, want %+v", p, text, got, want)
	}
}

func TestWindows(t *testing.T) {
	p := impl.Pattern{Text: "abcdefg", K: 2}
	one := impl.Pattern{Text: "abcd", K: 1}
	none := impl.Pattern{Text: "ab"}
	folding := impl.Pattern{Text: "aB", Fold: true}
	for _, c := range []struct {
		p    impl.Pattern
		text string
		want []impl.Span
	}{
		{p, "zzzzzzzzcdzzzzzzzzzzzzzzzzabxdefgzz", []impl.Span{{From: 4, To: 15}, {From: 24, To: 35}}},
		{one, "zzzabzzzabzzz", []impl.Span{{From: 2, To: 13}}},                       // windows that meet in one byte
		{one, "zzzabzzzzabzzzz", []impl.Span{{From: 2, To: 14}}},                     // that touch
		{one, "zzzabzzzzzabzzzz", []impl.Span{{From: 2, To: 8}, {From: 9, To: 15}}},  // that are one byte apart
		{one, "abzzzzzzzzzzzzcd", []impl.Span{{From: 0, To: 5}, {From: 11, To: 16}}}, // at both ends
		{one, "ab", []impl.Span{{From: 0, To: 2}}},
		{one, "cd", []impl.Span{{From: 0, To: 2}}},
		{one, "zzzz", nil},
		{one, "", nil},
		{none, "abab", []impl.Span{{From: 0, To: 4}}},
		{none, "abxab", []impl.Span{{From: 0, To: 2}, {From: 3, To: 5}}},
		{none, "ABaB", nil},
		{folding, "ABxaBAbxb", []impl.Span{{From: 0, To: 2}, {From: 3, To: 7}}},
		{impl.Pattern{Text: "aa"}, "aaaxaa", []impl.Span{{From: 0, To: 3}, {From: 4, To: 6}}},
		{impl.Pattern{Text: "\xff\x00"}, "\x00\xff\x00\xff", []impl.Span{{From: 1, To: 3}}},
		{impl.Pattern{Text: "ab", K: 2}, "abab", nil},
		{impl.Pattern{Text: "a", K: 4}, "a", nil},
	} {
		checkWindows(t, c.p, c.text, c.want)
	}
}

func TestWindowsOfEachShortText(t *testing.T) {
	for _, text := range textsOf("aAb", 5) {
		for _, want := range textsOf("ab", 3)[1:] {
			for k := range int64(len(want)) {
				for _, fold := range []bool{false, true} {
					p := impl.Pattern{Text: want, K: k, Fold: fold}
					checkWindows(t, p, text, wantWindows(p, text))
				}
			}
		}
	}
}

// textsAround gives texts in which pieces of the pattern, and all of it with
// some faults, stand far apart and near to each other.
func textsAround(r *rand.Rand, p impl.Pattern) []string {
	apart := func() string { return strings.Repeat(".", r.IntN(30)) }
	text, length := apart(), len(p.Text)
	for len(text) < 150 {
		from := r.IntN(length)
		text += p.Text[from:from+r.IntN(length-from)+1] + apart()
	}
	faulty := []byte(p.Text)
	for range r.IntN(6) {
		faulty[r.IntN(length)] = "abAB."[r.IntN(5)]
	}
	spread := ""
	for i := range length {
		spread += p.Text[i : i+1]
		if r.IntN(6) == 0 {
			spread += "."
		}
	}
	return []string{
		text[:min(len(text), impl.MaxText)], apart() + string(faulty) + apart() + spread + apart() + strings.ToUpper(p.Text),
		p.Text + strings.Repeat(".", 150) + p.Text[1:], string(faulty) + spread, someText(r, "abABc", r.IntN(201)), "", p.Text,
	}
}

func checkFiltered(t *testing.T, p impl.Pattern, text string) {
	t.Helper()
	want := impl.EndsOf(p, text)
	if got := impl.Filtered(p, text); !slices.Equal(got, want) {
		t.Errorf("Filtered(%+v, %q) = %+v, want %+v", p, text, got, want)
	}
}

// TestWindowsHaveAllEnds: also, each end stands in a window, and two windows
// are at least one byte apart.
func TestWindowsHaveAllEnds(t *testing.T) {
	r := rand.New(rand.NewPCG(8, 1))
	found, narrow := 0, 0
	for _, p := range eachPattern() {
		for _, text := range slices.Concat(textsAround(r, p), textsAround(r, p)) {
			checkFiltered(t, p, text)
			if impl.Always(p) {
				checkWindows(t, p, text, nil)
				continue
			}
			checkWindows(t, p, text, wantWindows(p, text))
			spans := impl.Windows(p, text)
			read, last := int64(0), int64(-1)
			for _, w := range spans {
				if w.From <= last || w.To <= w.From || w.To > int64(len(text)) {
					t.Errorf("Windows(%+v, %q) = %+v", p, text, spans)
				}
				read, last = read+w.To-w.From, w.To
			}
			for _, e := range impl.EndsOf(p, text) {
				found++
				if !slices.ContainsFunc(spans, func(w impl.Span) bool { return w.From < e.At && e.At <= w.To }) {
					t.Errorf("%+v ends at %d in %q, and the windows are %+v", p, e.At, text, spans)
				}
			}
			if len(spans) > 1 && read < int64(len(text)) {
				narrow++
			}
		}
	}
	if found < 1000 || narrow < 200 {
		t.Errorf("%d ends were in windows, and %d texts had some", found, narrow)
	}
}

func TestFilteredOfEachShortText(t *testing.T) {
	for _, text := range textsOf("aAb", 5) {
		for _, want := range textsOf("ab", 3)[1:] {
			for k := range int64(5) {
				for _, fold := range []bool{false, true} {
					checkFiltered(t, impl.Pattern{Text: want, K: k, Fold: fold}, text)
				}
			}
		}
	}
}

func TestFiltered(t *testing.T) {
	for _, c := range []struct {
		p    impl.Pattern
		text string
		want []impl.End
	}{
		{impl.Pattern{Text: "abc", K: 1}, "xacyabcz", []impl.End{{At: 3, Dist: 1}, {At: 6, Dist: 1}, {At: 7}, {At: 8, Dist: 1}}},
		{impl.Pattern{Text: "abc"}, "abcabcxABC", []impl.End{{At: 3}, {At: 6}}},
		{impl.Pattern{Text: "aBc", Fold: true}, "abcabcxABC", []impl.End{{At: 3}, {At: 6}, {At: 10}}},
		{impl.Pattern{Text: "abcd", K: 3}, "zd", []impl.End{{At: 2, Dist: 3}}}, // one less than Text is long
		{impl.Pattern{Text: "abcd", K: 3}, "zz", nil},
		{impl.Pattern{Text: "abcd", K: 4}, "zd", []impl.End{{At: 0, Dist: 4}, {At: 1, Dist: 4}, {At: 2, Dist: 3}}}, // as much
		{impl.Pattern{Text: "ab", K: 4}, "", []impl.End{{Dist: 2}}},
		{impl.Pattern{Text: "ab", K: 1}, "", nil},
		{impl.Pattern{Text: "abcd", K: 1}, "aXbcdzzzzzzzzzzzabd", []impl.End{{At: 5, Dist: 1}, {At: 19, Dist: 1}}},
	} {
		if got := impl.Filtered(c.p, c.text); !slices.Equal(got, c.want) {
			t.Errorf("Filtered(%+v, %q) = %+v, want %+v", c.p, c.text, got, c.want)
		}
	}
}

// TestOneThatMayBeLeftOutIsFoundEverywhere: also at 0, and in a text that has
// nothing of it.
func TestOneThatMayBeLeftOutIsFoundEverywhere(t *testing.T) {
	r := rand.New(rand.NewPCG(8, 2))
	for _, p := range eachPattern() {
		for _, text := range []string{"", "z", "zzzz", p.Text, someText(r, "abAB.", 200)} {
			var places []int64
			for _, e := range impl.Filtered(p, text) {
				places = append(places, e.At)
			}
			everywhere := len(places) == len(text)+1 && places[0] == 0 && places[len(text)] == int64(len(text))
			if impl.Always(p) && !everywhere {
				t.Errorf("%+v is found in %q at %d alone", p, text, places)
			}
			if !impl.Always(p) && len(places) > 0 && places[0] == 0 {
				t.Errorf("%+v is found in %q at 0", p, text)
			}
		}
	}
}

func TestWindowsOfWhatIsNotRight(t *testing.T) {
	most := strings.Repeat("ab", impl.MaxText/2)
	for _, p := range []impl.Pattern{{Text: "ab"}, {Text: "AB", K: 1, Fold: true}, {Text: most[:20], K: 4}, {Text: "b", K: 1}, {Text: "xyz", K: 4, Fold: true}} {
		checkFiltered(t, p, most)
		if len(impl.Filtered(p, most)) == 0 || (len(impl.Windows(p, most)) == 0) != impl.Always(p) {
			t.Errorf("%+v is not found in %d bytes", p, len(most))
		}
		for _, text := range []string{most + "a", most + most, strings.Repeat("ab", 228), strings.Repeat("ab", 40000)} {
			checkWindows(t, p, text, nil)
			if got := impl.Filtered(p, text); len(got) != 0 {
				t.Errorf("Filtered(%+v) of %d bytes = %+v", p, len(text), got)
			}
		}
	}
	for _, p := range wrongPatterns() {
		for _, text := range []string{"", "a", "abc", "aaaaaaaaaaaaaaaaaaaaaaaaa", most, most + "a"} {
			checkWindows(t, p, text, nil)
			if got := impl.Filtered(p, text); len(got) != 0 {
				t.Errorf("Filtered(%+v, %q) = %+v", p, text, got)
			}
		}
	}
}

func TestPieceListsAreNewMemory(t *testing.T) {
	p, text := impl.Pattern{Text: "abcd", K: 1}, "abcdxxxxxxxxxabd"
	pieces, spans, ends := impl.PiecesOf(p), impl.Windows(p, text), impl.Filtered(p, text)
	clear(impl.PiecesOf(p))
	clear(impl.Windows(p, text))
	clear(impl.Filtered(p, text))
	if !slices.Equal(pieces, impl.PiecesOf(p)) || !slices.Equal(spans, impl.Windows(p, text)) || !slices.Equal(ends, impl.Filtered(p, text)) {
		t.Error("two answers differ")
	}
	if len(pieces) != 2 || len(spans) != 2 || len(ends) == 0 || pieces[1].Text != "cd" || spans[1].To != 16 || ends[0].At != 3 {
		t.Errorf("%+v, %+v and %+v share their memory with others", pieces, spans, ends)
	}
}

func TestPiecesShareNoText(t *testing.T) {
	from := []byte("abcdefg")
	pieces := impl.PiecesOf(impl.Pattern{Text: unsafe.String(&from[0], len(from)), K: 2})
	clear(from)
	if !slices.Equal(pieces, []impl.Piece{{At: 0, Text: "ab"}, {At: 2, Text: "cd"}, {At: 4, Text: "efg"}}) {
		t.Errorf("the pieces have become %+v", pieces)
	}
}
