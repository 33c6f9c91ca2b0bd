package tests

import (
	"math"
	"math/rand/v2"
	"slices"
	"strings"
	"testing"

	"loop.example/g00568/impl"
)

// behindFound is what withRoom writes behind what was found.
var behindFound = impl.Found{From: 7, To: 77, Weight: 777}

// wrongFounds are not right, each for one reason.
func wrongFounds() []impl.Found {
	return []impl.Found{
		{}, {From: 1, To: 1}, {From: 4, To: 3, Weight: 1}, {From: 200, To: 200}, {From: 200, To: 0},
		{From: -1, To: 1}, {From: math.MinInt64, To: 1}, {From: -256, To: 3}, {From: -1 << 32, To: 2},
		{From: 0, To: 201}, {From: 199, To: 201}, {From: 200, To: 201}, {From: 0, To: 256 + 3}, {From: 0, To: 1<<32 + 3}, {From: 0, To: math.MaxInt64},
		{From: math.MinInt64, To: math.MaxInt64}, {From: math.MaxInt64, To: math.MinInt64}, {From: 201, To: 202},
		{From: 1, To: 3, Weight: -1}, {From: 1, To: 3, Weight: 1001}, {From: 1, To: 3, Weight: math.MinInt64}, {From: 1, To: 3, Weight: math.MaxInt64}, {From: 1, To: 3, Weight: 1<<32 + 1},
	}
}

// foundOf gives what stands from .. to and weighs so much, written as three
// numbers.
func foundOf(triples [][3]int64) []impl.Found {
	var l []impl.Found
	for _, f := range triples {
		l = append(l, impl.Found{From: f[0], To: f[1], Weight: f[2]})
	}
	return l
}

// foundAt gives all parts of the places from .. from + length with each of the
// weights.
func foundAt(from int64, length int64, weights ...int64) []impl.Found {
	var all []impl.Found
	for a := range length {
		for b := a + 1; b <= length; b++ {
			for _, weight := range weights {
				all = append(all, impl.Found{From: from + a, To: from + b, Weight: weight})
			}
		}
	}
	return all
}

// listsOfFound gives all lists of at most so many of them.
func listsOfFound(all []impl.Found, most int) [][]impl.Found {
	var out [][]impl.Found
	for _, places := range listsOf(0, int64(len(all))-1, most) {
		var l []impl.Found
		for _, at := range places {
			l = append(l, all[at])
		}
		out = append(out, l)
	}
	return out
}

func someFound(r *rand.Rand, count int, longest int, heaviest int) []impl.Found {
	var l []impl.Found
	for range count {
		from := r.IntN(200)
		to := min(from+1+r.IntN(longest), 200)
		l = append(l, impl.Found{From: int64(from), To: int64(to), Weight: int64(r.IntN(heaviest + 1))})
	}
	return l
}

// wantLeftmost takes what the document says one by one.
func wantLeftmost(l []impl.Found) []impl.Found {
	var chosen []impl.Found
	for end := int64(0); ; end = chosen[len(chosen)-1].To {
		best := -1
		for i, f := range l {
			if f.From < end {
				continue
			}
			if best < 0 || f.From < l[best].From || f.From == l[best].From && f.To > l[best].To {
				best = i
			}
		}
		if best < 0 {
			return chosen
		}
		chosen = append(chosen, l[best])
	}
}

func weightOf(l []impl.Found) int64 {
	var sum int64
	for _, f := range l {
		sum += f.Weight
	}
	return sum
}

// wantBest holds of each place from the last to the first what is chosen.
func wantBest(l []impl.Found) []impl.Found {
	best := make([][]impl.Found, 201)
	for at := 199; at >= 0; at-- {
		best[at] = best[at+1]
		for _, f := range l {
			if other := append([]impl.Found{f}, best[f.To]...); f.From == int64(at) && weightOf(other) > weightOf(best[at]) {
				best[at] = other
			}
		}
	}
	return best[0]
}

// standApart tells whether all stand in their order and no two meet.
func standApart(l []impl.Found) bool {
	for i := range l {
		if i > 0 && l[i].From < l[i-1].To {
			return false
		}
	}
	return true
}

// heaviest gives the most weight of any of them that stand apart; it tries all.
func heaviest(l []impl.Found) int64 {
	ordered := slices.Clone(l)
	slices.SortFunc(ordered, func(a, b impl.Found) int { return int(a.From - b.From) })
	var most int64
	for bits := range 1 << len(ordered) {
		var some []impl.Found
		for i, f := range ordered {
			if bits>>i&1 == 1 {
				some = append(some, f)
			}
		}
		if standApart(some) {
			most = max(most, weightOf(some))
		}
	}
	return most
}

// wantMarked writes the brackets from the last one back.
func wantMarked(text string, l []impl.Found) (string, bool) {
	if !standApart(l) || len(l) > 0 && l[len(l)-1].To > int64(len(text)) {
		return "", false
	}
	for _, f := range slices.Backward(l) {
		text = text[:f.From] + "[" + text[f.From:f.To] + "]" + text[f.To:]
	}
	return text, true
}

func checkLeftmost(t *testing.T, l []impl.Found, want []impl.Found) {
	t.Helper()
	got := impl.Leftmost(l)
	if !slices.Equal(got, want) || !standApart(got) || !impl.FoundOk(l) {
		t.Errorf("Leftmost(%+v) = %+v, want %+v", l, got, want)
	}
}

func checkBest(t *testing.T, l []impl.Found, want []impl.Found) {
	t.Helper()
	got, weight := impl.BestOf(l)
	if !slices.Equal(got, want) || weight != weightOf(want) || !standApart(got) || !impl.FoundOk(l) {
		t.Errorf("BestOf(%+v) = %+v, %d, want %+v", l, got, weight, want)
	}
	if leftmost := impl.Leftmost(l); weight < weightOf(leftmost) {
		t.Errorf("BestOf(%+v) weighs %d, the leftmost weigh %d", l, weight, weightOf(leftmost))
	}
}

func checkMarked(t *testing.T, text string, l []impl.Found, want string, right bool) {
	t.Helper()
	if got, ok := impl.Marked(text, l); got != want || ok != right {
		t.Errorf("Marked(%q, %+v) = %q, %v, want %q, %v", text, l, got, ok, want, right)
	}
}

// checkNoFound looks for the answers to what is not right.
func checkNoFound(t *testing.T, l []impl.Found) {
	t.Helper()
	if impl.FoundOk(l) {
		t.Errorf("FoundOk(%+v) is true", l)
	}
	if got := impl.Leftmost(l); len(got) != 0 {
		t.Errorf("Leftmost(%+v) = %+v", l, got)
	}
	if got, weight := impl.BestOf(l); len(got) != 0 || weight != -1 {
		t.Errorf("BestOf(%+v) = %+v, %d", l, got, weight)
	}
	for _, text := range []string{"", "abcdefgh", strings.Repeat("a", 200)} {
		checkMarked(t, text, l, "", false)
	}
}

func TestFoundOkAtItsLimits(t *testing.T) {
	for _, f := range []impl.Found{{To: 1}, {To: 200}, {From: 199, To: 200}, {To: 1, Weight: 1000}, {From: 199, To: 200, Weight: 1000}, {From: 3, To: 4, Weight: 999}} {
		checkLeftmost(t, []impl.Found{f}, []impl.Found{f})
		checkLeftmost(t, slices.Repeat([]impl.Found{f}, 20), []impl.Found{f})
		for _, count := range []int{21, 22, 40, 256, 256 + 3} {
			checkNoFound(t, slices.Repeat([]impl.Found{f}, count))
		}
	}
	if !impl.FoundOk(nil) || !impl.FoundOk([]impl.Found{}) {
		t.Error("FoundOk of none is false")
	}
	numbers := []int64{-1, 0, 1, 2, 199, 200, 201}
	for _, from := range numbers {
		for _, to := range numbers {
			for _, weight := range []int64{-1, 0, 1, 1000, 1001} {
				l := []impl.Found{{From: from, To: to, Weight: weight}}
				want := from >= 0 && to > from && to <= 200 && weight >= 0 && weight <= 1000
				if got := impl.FoundOk(l); got != want {
					t.Errorf("FoundOk(%+v) is %v", l, got)
				}
				if !want {
					checkNoFound(t, l)
				}
			}
		}
	}
}

func TestWhatWasFoundIsNotRight(t *testing.T) {
	right := impl.Found{From: 1, To: 2, Weight: 3}
	for _, wrong := range wrongFounds() {
		checkNoFound(t, []impl.Found{wrong})
		checkNoFound(t, []impl.Found{wrong, right})
		checkNoFound(t, []impl.Found{right, wrong})
		checkNoFound(t, []impl.Found{right, wrong, right})
		checkNoFound(t, append(slices.Repeat([]impl.Found{right}, 19), wrong))
		checkNoFound(t, append(slices.Repeat([]impl.Found{right}, 20), wrong))
	}
}

func TestLeftmost(t *testing.T) {
	for _, c := range []struct{ l, want [][3]int64 }{
		{nil, nil},
		{[][3]int64{{3, 6, 5}, {1, 4, 4}, {1, 3, 3}, {6, 8, 2}, {4, 5, 1}}, [][3]int64{{1, 4, 4}, {4, 5, 1}, {6, 8, 2}}},
		{[][3]int64{{0, 1, 0}, {0, 3, 0}, {0, 2, 9}}, [][3]int64{{0, 3, 0}}},            // the longest
		{[][3]int64{{0, 3, 1}, {0, 3, 9}, {0, 3, 5}}, [][3]int64{{0, 3, 1}}},            // the first
		{[][3]int64{{0, 2, 7}, {0, 3, 5}, {0, 3, 9}}, [][3]int64{{0, 3, 5}}},            // of the longest the first
		{[][3]int64{{2, 4, 9}, {0, 3, 1}}, [][3]int64{{0, 3, 1}}},                       // one byte in both
		{[][3]int64{{3, 4, 9}, {0, 3, 1}}, [][3]int64{{0, 3, 1}, {3, 4, 9}}},            // they touch
		{[][3]int64{{3, 5, 2}, {0, 2, 1}, {1, 4, 9}}, [][3]int64{{0, 2, 1}, {3, 5, 2}}}, // meets both
		{[][3]int64{{0, 200, 0}, {0, 199, 1}, {199, 200, 1}}, [][3]int64{{0, 200, 0}}},
		{[][3]int64{{199, 200, 1}, {0, 199, 1}}, [][3]int64{{0, 199, 1}, {199, 200, 1}}},
		{[][3]int64{{5, 6, 1}, {4, 5, 2}, {5, 7, 3}, {4, 5, 4}}, [][3]int64{{4, 5, 2}, {5, 7, 3}}},
	} {
		checkLeftmost(t, foundOf(c.l), foundOf(c.want))
	}
}

func TestBestOf(t *testing.T) {
	for _, c := range []struct{ l, want [][3]int64 }{
		{nil, nil},
		{[][3]int64{{3, 6, 5}, {1, 4, 4}, {1, 3, 3}, {6, 8, 2}, {4, 5, 1}}, [][3]int64{{1, 3, 3}, {3, 6, 5}, {6, 8, 2}}},
		{[][3]int64{{0, 1, 0}}, nil}, // weighs no more than none
		{[][3]int64{{0, 1, 0}, {1, 2, 5}, {2, 3, 0}}, [][3]int64{{1, 2, 5}}},
		{[][3]int64{{0, 2, 1}, {2, 4, 1}}, [][3]int64{{0, 2, 1}, {2, 4, 1}}}, // they touch
		{[][3]int64{{0, 3, 2}, {2, 4, 1}}, [][3]int64{{0, 3, 2}}},            // one byte in both
		{[][3]int64{{0, 3, 1}, {2, 4, 2}}, [][3]int64{{2, 4, 2}}},
		{[][3]int64{{0, 3, 1}, {2, 4, 1}}, [][3]int64{{2, 4, 1}}}, // alike: that from the next place on
		{[][3]int64{{2, 4, 1}, {0, 3, 1}}, [][3]int64{{2, 4, 1}}},
		{[][3]int64{{0, 2, 3}, {0, 1, 3}}, [][3]int64{{0, 2, 3}}}, // alike: the first of l
		{[][3]int64{{0, 1, 3}, {0, 2, 3}}, [][3]int64{{0, 1, 3}}},
		{[][3]int64{{0, 2, 3}, {0, 1, 3}, {0, 3, 4}}, [][3]int64{{0, 3, 4}}},
		{[][3]int64{{0, 2, 3}, {4, 6, 3}, {0, 6, 6}}, [][3]int64{{0, 2, 3}, {4, 6, 3}}},
		{[][3]int64{{0, 6, 6}, {4, 6, 3}, {0, 2, 3}}, [][3]int64{{0, 6, 6}}},
		{[][3]int64{{0, 6, 6}, {4, 6, 4}, {0, 2, 3}}, [][3]int64{{0, 2, 3}, {4, 6, 4}}},
		{[][3]int64{{0, 6, 6}, {1, 3, 3}, {4, 6, 3}}, [][3]int64{{1, 3, 3}, {4, 6, 3}}},
		{[][3]int64{{0, 200, 1000}, {0, 199, 999}, {199, 200, 2}}, [][3]int64{{0, 199, 999}, {199, 200, 2}}},
		{[][3]int64{{0, 200, 1000}, {0, 199, 998}, {199, 200, 2}}, [][3]int64{{0, 200, 1000}}},
		{[][3]int64{{0, 199, 998}, {199, 200, 2}, {0, 200, 1000}}, [][3]int64{{0, 199, 998}, {199, 200, 2}}},
	} {
		checkBest(t, foundOf(c.l), foundOf(c.want))
	}
}

func TestChoosingOfEachShortList(t *testing.T) {
	for _, from := range []int64{0, 197} {
		for _, l := range listsOfFound(foundAt(from, 3, 0, 1, 2), 3) {
			checkLeftmost(t, l, wantLeftmost(l))
			best := wantBest(l)
			checkBest(t, l, best)
			if most := heaviest(l); weightOf(best) != most {
				t.Errorf("BestOf(%+v) weighs %d, want %d", l, weightOf(best), most)
			}
		}
	}
}

func TestChoosingOfSomeLists(t *testing.T) {
	r := rand.New(rand.NewPCG(17, 1))
	for range 1500 {
		l := someFound(r, r.IntN(21), 1+r.IntN(60), 1+r.IntN(1000))
		checkLeftmost(t, l, wantLeftmost(l))
		checkBest(t, l, wantBest(l))
		few := l[:min(len(l), 9)]
		if _, weight := impl.BestOf(few); weight != heaviest(few) {
			t.Errorf("BestOf(%+v) weighs %d, want %d", few, weight, heaviest(few))
		}
	}
}

// TestChoosingFull has as many as there may be, all of which stand apart.
func TestChoosingFull(t *testing.T) {
	var l []impl.Found
	for i := range int64(20) {
		l = append(l, impl.Found{From: i * 10, To: i*10 + 10, Weight: 1000})
	}
	turned := slices.Clone(l)
	slices.Reverse(turned)
	for _, order := range [][]impl.Found{l, turned} {
		checkLeftmost(t, order, l)
		checkBest(t, order, l)
	}
	if _, weight := impl.BestOf(l); weight != 20000 {
		t.Errorf("twenty times 1000 weigh %d", weight)
	}
	checkNoFound(t, append(l, l[0]))
}

func TestMarked(t *testing.T) {
	full := strings.Repeat("ab", 100)
	for _, c := range []struct {
		text  string
		l     [][3]int64
		want  string
		right bool
	}{
		{"", nil, "", true},
		{"abc", nil, "abc", true},
		{"abcdefgh", [][3]int64{{1, 4, 0}, {4, 5, 1000}, {6, 8, 2}}, "a[bcd][e]f[gh]", true},
		{"abc", [][3]int64{{0, 1, 0}}, "[a]bc", true},
		{"abc", [][3]int64{{2, 3, 0}}, "ab[c]", true},
		{"abc", [][3]int64{{0, 3, 0}}, "[abc]", true},
		{"abc", [][3]int64{{0, 1, 1}, {1, 2, 1}, {2, 3, 1}}, "[a][b][c]", true},
		{"abc", [][3]int64{{0, 2, 1}, {1, 3, 1}}, "", false}, // begins ahead of the last one's end
		{"abc", [][3]int64{{0, 2, 1}, {0, 2, 1}}, "", false},
		{"abc", [][3]int64{{1, 2, 1}, {0, 1, 1}}, "", false}, // not in their order
		{"abcdef", [][3]int64{{0, 1, 1}, {4, 5, 1}, {2, 3, 1}}, "", false},
		{"abcdef", [][3]int64{{0, 4, 1}, {4, 5, 1}, {3, 6, 1}}, "", false},
		{"abc", [][3]int64{{2, 4, 1}}, "", false}, // ends behind the text's end
		{"abc", [][3]int64{{0, 1, 1}, {3, 4, 1}}, "", false},
		{"abc", [][3]int64{{100, 200, 1}}, "", false},
		{"", [][3]int64{{0, 1, 1}}, "", false},
		{"[a]", [][3]int64{{0, 1, 1}, {2, 3, 1}}, "[[]a[]]", true},
		{"\x00\xff\n", [][3]int64{{1, 2, 1}}, "\x00[\xff]\n", true},
		{full, [][3]int64{{0, 200, 1}}, "[" + full + "]", true},
		{full, [][3]int64{{0, 1, 1}, {199, 200, 1}}, "[a]" + full[1:199] + "[b]", true},
		{full, nil, full, true},
		{full + "a", nil, "", false},
		{full + "a", [][3]int64{{0, 1, 1}}, "", false},
		{full[:199], [][3]int64{{0, 200, 1}}, "", false},
		{full[:199], [][3]int64{{0, 199, 1}}, "[" + full[:199] + "]", true},
	} {
		checkMarked(t, c.text, foundOf(c.l), c.want, c.right)
	}
}

func TestMarkedOfEachShortList(t *testing.T) {
	for _, l := range listsOfFound(foundAt(0, 4, 1), 3) {
		for length := range 6 {
			text := "ab[c]"[:length]
			want, right := wantMarked(text, l)
			checkMarked(t, text, l, want, right)
		}
	}
}

func TestMarkedOfWhatIsChosen(t *testing.T) {
	r := rand.New(rand.NewPCG(17, 2))
	for range 300 {
		l := someFound(r, r.IntN(21), 1+r.IntN(60), 1000)
		best, _ := impl.BestOf(l)
		for _, chosen := range [][]impl.Found{impl.Leftmost(l), best} {
			for _, length := range []int{200, r.IntN(201)} {
				text := someText(r, "ab[]\xff", length)
				want, right := wantMarked(text, chosen)
				checkMarked(t, text, chosen, want, right)
			}
			checkMarked(t, strings.Repeat("a", 201), chosen, "", false)
		}
	}
}

func TestWhatWasFoundIsOnlyRead(t *testing.T) {
	r := rand.New(rand.NewPCG(17, 3))
	for range 100 {
		want := someFound(r, r.IntN(23), 1+r.IntN(60), 1001)
		l := withRoom(want, behindFound)
		first, again := impl.Leftmost(l), impl.Leftmost(l)
		best, _ := impl.BestOf(l)
		more, _ := impl.BestOf(l)
		impl.FoundOk(l)
		impl.Marked(strings.Repeat("a", 200), l)
		impl.Marked(strings.Repeat("a", 200), first)
		checkRoom(t, l, want, behindFound)
		for _, answer := range [][]impl.Found{first, best} {
			clear(append(answer, impl.Found{})) // and the room behind it
		}
		checkRoom(t, l, want, behindFound)
		if impl.FoundOk(l) && (!slices.Equal(again, wantLeftmost(want)) || !slices.Equal(more, wantBest(want))) {
			t.Errorf("two answers share their memory: %+v, %+v", again, more)
		}
	}
}

func TestMarkedIsNewMemory(t *testing.T) {
	for _, l := range [][]impl.Found{nil, foundAt(0, 1, 1), foundAt(0, 3, 1)[2:3], foundAt(2, 1, 1)} {
		want, _ := wantMarked("abc", l)
		text, ruin := clobber("abc")
		got, _ := impl.Marked(text[0], l)
		ruin()
		if got != want {
			t.Errorf("what was marked with %+v has become %q, want %q", l, got, want)
		}
	}
}
