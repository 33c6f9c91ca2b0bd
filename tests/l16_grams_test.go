package tests

import (
	"fmt"
	"math"
	"math/rand/v2"
	"slices"
	"strings"
	"testing"

	"loop.example/g00568/impl"
)

// wrongLengths are no lengths of grams.
func wrongLengths() []int64 {
	return []int64{0, 11, -1, 12, 200, 256 + 2, 1<<32 + 2, math.MaxInt64, math.MinInt64}
}

func wantGrams(s string, q int) []string {
	var l []string
	for from := range len(s) {
		if from+q <= len(s) {
			l = append(l, s[from:from+q])
		}
	}
	slices.Sort(l)
	return l
}

// wantCommon takes each gram of a that is there out of those of b.
func wantCommon(a string, b string, q int) int64 {
	left := wantGrams(b, q)
	count := len(left)
	for _, gram := range wantGrams(a, q) {
		if at := slices.Index(left, gram); at >= 0 {
			left = slices.Delete(left, at, at+1)
		}
	}
	return int64(count - len(left))
}

func wantMayBe(a string, b string, k int, q int) bool {
	longer, shorter := a, b
	if len(b) > len(a) {
		longer, shorter = b, a
	}
	return len(longer)-len(shorter) <= k && wantCommon(a, b, q) >= int64(len(longer)-q+1-k*q)
}

func checkGrams(t *testing.T, s string, q int, want []string) {
	t.Helper()
	if got := impl.GramsOf(s, int64(q)); !slices.Equal(got, want) {
		t.Errorf("GramsOf(%q, %d) = %q, want %q", s, q, got, want)
	}
}

func checkCommon(t *testing.T, a string, b string, q int, want int64) {
	t.Helper()
	if got, back := impl.Common(a, b, int64(q)), impl.Common(b, a, int64(q)); got != want || back != want {
		t.Errorf("Common(%q, %q, %d) = %d and %d, want %d", a, b, q, got, back, want)
	}
}

func checkMayBe(t *testing.T, a string, b string, k int64, q int64, want bool) {
	t.Helper()
	if got, back := impl.MayBe(a, b, k, q), impl.MayBe(b, a, k, q); got != want || back != want {
		t.Errorf("MayBe(%q, %q, %d, %d) is %v and %v, want %v", a, b, k, q, got, back, want)
	}
}

func TestGramsOf(t *testing.T) {
	for _, c := range []struct {
		s    string
		q    int
		want []string
	}{
		{"", 1, nil},
		{"", 10, nil},
		{"a", 1, []string{"a"}},
		{"a", 2, nil},
		{"ba", 1, []string{"a", "b"}},
		{"ba", 2, []string{"ba"}},
		{"abab", 2, []string{"ab", "ab", "ba"}},
		{"baba", 2, []string{"ab", "ba", "ba"}},
		{"aaaa", 2, []string{"aa", "aa", "aa"}},
		{"cbaabc", 1, []string{"a", "a", "b", "b", "c", "c"}},
		{"cbaabc", 3, []string{"aab", "abc", "baa", "cba"}},
		{"aAbB", 1, []string{"A", "B", "a", "b"}},
		{"\xff\x00\x80\n", 1, []string{"\x00", "\n", "\x80", "\xff"}},
		{"\xff\x00\xff\x00", 2, []string{"\x00\xff", "\xff\x00", "\xff\x00"}},
		{"\u00e4\u00e4", 1, []string{"\xa4", "\xa4", "\xc3", "\xc3"}},
		{"abcdefghi", 10, nil},
		{"abcdefghij", 10, []string{"abcdefghij"}},
		{"jihgfedcbaj", 10, []string{"ihgfedcbaj", "jihgfedcba"}},
	} {
		checkGrams(t, c.s, c.q, c.want)
	}
}

func TestGramsOfSomeTexts(t *testing.T) {
	r := rand.New(rand.NewPCG(16, 1))
	texts := append(textsOf("ab", 5), allBytes()[:200], allBytes()[56:])
	for range 40 {
		texts = append(texts, someText(r, "ab\xff", r.IntN(201)))
	}
	for _, s := range texts {
		for q := 1; q <= 10; q++ {
			checkGrams(t, s, q, wantGrams(s, q))
			checkCommon(t, s, s, q, int64(max(len(s)-q+1, 0)))
		}
	}
}

func TestGramsAtTheirLimits(t *testing.T) {
	full := strings.Repeat("ab", 100)
	for _, q := range []int{1, 2, 9, 10} {
		if got := impl.GramsOf(full, int64(q)); len(got) != 201-q || !slices.Equal(got, wantGrams(full, q)) {
			t.Errorf("GramsOf of 200 bytes and %d has %d", q, len(got))
		}
		for _, length := range []int{q - 1, q, q + 1} {
			checkGrams(t, full[:length], q, wantGrams(full[:length], q))
		}
		for _, long := range []string{full + "a", strings.Repeat("a", 256), strings.Repeat("a", 400)} {
			checkGrams(t, long, q, nil)
		}
	}
	for _, q := range wrongLengths() {
		for _, s := range []string{"", "a", "abcdefghijk", strings.Repeat("abc", 66), full, full + "a"} {
			if got := impl.GramsOf(s, q); len(got) != 0 {
				t.Errorf("GramsOf(%q, %d) = %q", s, q, got)
			}
		}
	}
}

func TestCommon(t *testing.T) {
	for _, c := range []struct {
		a, b string
		q    int
		want int64
	}{
		{"", "", 1, 0},
		{"", "abc", 1, 0},
		{"a", "a", 2, 0},
		{"a", "a", 10, 0},
		{"ab", "ab", 2, 1},
		{"abc", "xyz", 1, 0},
		{"abab", "ababab", 2, 3}, // ab twice, ba once
		{"aaaa", "aaa", 1, 3},
		{"aaaa", "aab", 2, 1},
		{"aabb", "abab", 1, 4},
		{"aabb", "abab", 2, 1},
		{"abc", "ABC", 1, 0}, // no folding
		{"abcd", "abxd", 2, 1},
		{"abcd", "dcba", 1, 4},
		{"abcdefghij", "abcdefghij", 10, 1},
		{"abcdefghijk", "xabcdefghij", 10, 1},
		{"\x00\xff\x00", "\xff\x00\xff", 2, 2},
	} {
		checkCommon(t, c.a, c.b, c.q, c.want)
	}
}

func TestCommonOfSomeTexts(t *testing.T) {
	texts := textsOf("ab", 4)
	for _, a := range texts {
		for _, b := range texts {
			for q := 1; q <= 5; q++ {
				checkCommon(t, a, b, q, wantCommon(a, b, q))
			}
		}
	}
	r := rand.New(rand.NewPCG(16, 2))
	for range 60 {
		a, b, q := someText(r, "abc", r.IntN(201)), someText(r, "abd", r.IntN(201)), 1+r.IntN(10)
		checkCommon(t, a, b, q, wantCommon(a, b, q))
	}
}

func TestCommonAtItsLimits(t *testing.T) {
	full := strings.Repeat("ab", 100)
	for _, q := range []int{1, 10} {
		checkCommon(t, full, full, q, int64(201-q))
		checkCommon(t, full, "", q, 0)
		for _, long := range []string{full + "a", strings.Repeat("a", 400)} {
			checkCommon(t, long, "", q, -1)
			checkCommon(t, long, full, q, -1)
			checkCommon(t, long, long, q, -1)
		}
	}
	for _, q := range wrongLengths() {
		for _, s := range []string{"", "a", "abcdefghijk", full, full + "a"} {
			checkCommon(t, s, s, int(q), -1)
			checkCommon(t, s, "a", int(q), -1)
		}
	}
}

func TestMayBe(t *testing.T) {
	for _, c := range []struct {
		a, b string
		k, q int64
		want bool
	}{
		{"", "", 0, 1, true},
		{"", "", 0, 10, true},
		{"", "a", 0, 1, false},
		{"", "a", 1, 1, true},
		{"", "abc", 2, 3, false},
		{"", "abc", 3, 3, true},
		{"a", "b", 0, 1, false},
		{"a", "b", 1, 1, true},
		{"a", "b", 0, 2, true}, // too short for such grams
		{"ab", "xy", 0, 2, false},
		{"ab", "xy", 1, 2, true},   // 1 less 2
		{"abc", "xyz", 1, 2, true}, // 2 less 2
		{"abc", "xyz", 2, 1, false},
		{"abc", "xyz", 3, 1, true},
		{"abcd", "abxd", 1, 2, true}, // 3 less 2, and there is one
		{"abcd", "abxd", 0, 2, false},
		{"abcd", "axyd", 1, 2, false}, // and there is none
		{"abcd", "axyd", 2, 2, true},
		{"abcd", "dcba", 0, 1, true}, // the same bytes
		{"abcd", "abcdefg", 2, 2, false},
		{"abcd", "abcdefg", 3, 2, true},
		{"abcd", "ABCD", 3, 1, false},
		{"abcd", "ABCD", 4, 1, true},
		{"abcdefghijkl", "abcdefghijkx", 0, 10, false},
		{"abcdefghijkl", "abcdefghijkx", 1, 10, true},
	} {
		checkMayBe(t, c.a, c.b, c.k, c.q, c.want)
	}
}

func TestMayBeOfSomeTexts(t *testing.T) {
	texts := textsOf("ab", 4)
	for _, a := range texts {
		for _, b := range texts {
			for k := range 4 {
				for q := 1; q <= 4; q++ {
					checkMayBe(t, a, b, int64(k), int64(q), wantMayBe(a, b, k, q))
				}
			}
		}
	}
	r := rand.New(rand.NewPCG(16, 3))
	for range 100 {
		a, k, q := someText(r, "abcdefgh", r.IntN(201)), r.IntN(8), 1+r.IntN(10)
		for _, b := range []string{someText(r, "abcdefgh", len(a)), faulty(r, a, k), faulty(r, a, k+5)} {
			checkMayBe(t, a, b, int64(k), int64(q), wantMayBe(a, b, k, q))
		}
	}
}

// TestMayBeAtItsEdge: as many faults as the grams tell are enough, one less is
// not.
func TestMayBeAtItsEdge(t *testing.T) {
	whole := "abcdefghijklmnopqrstuvwxyzABCDEFGHIJKLMNOPQRSTUVWXYZ"
	for q := int64(1); q <= 10; q++ {
		for faults := int64(1); faults <= 4; faults++ {
			other := []byte(whole)
			for i := range faults {
				other[10+i*10] = '.'
			}
			checkMayBe(t, whole, string(other), faults, q, true)
			checkMayBe(t, whole, string(other), faults-1, q, false)
		}
		for less := int64(1); less <= 4; less++ {
			checkMayBe(t, whole, whole[less:], less, q, true)
			checkMayBe(t, whole, whole[less:], less-1, q, false)
		}
	}
}

func TestMayBeAtItsLimits(t *testing.T) {
	full, other := strings.Repeat("ab", 100), strings.Repeat("c", 200)
	for q := int64(1); q <= 10; q++ {
		checkMayBe(t, full, full, 0, q, true)
		checkMayBe(t, full, full, 200, q, true)
		checkMayBe(t, full, other, 200, q, true)
		checkMayBe(t, full, other, 0, q, false)
		checkMayBe(t, full, "", 200, q, true)
		checkMayBe(t, full, "", 199, q, false)
		for _, k := range []int64{-1, 201, 256, math.MinInt64, math.MaxInt64, 1 << 32} {
			for _, s := range []string{"", "a", full} {
				checkMayBe(t, s, s, k, q, false)
			}
		}
		for _, long := range []string{full + "a", strings.Repeat("a", 400)} {
			for _, k := range []int64{0, 1, 200} {
				checkMayBe(t, long, long, k, q, false)
				checkMayBe(t, long, full, k, q, false)
			}
		}
	}
	for _, q := range wrongLengths() {
		for _, s := range []string{"", "a", full} {
			for _, k := range []int64{-1, 0, 1, 200} {
				checkMayBe(t, s, s, k, q, false)
			}
		}
	}
	checkMayBe(t, strings.Repeat("a", 199), full[:199], 199, 1, true)
}

// faulty gives the text with so many bytes put in, left out or changed.
func faulty(r *rand.Rand, s string, faults int) string {
	for range faults {
		at := r.IntN(len(s) + 1)
		switch to := min(at+1, len(s)); r.IntN(3) {
		case 0:
			s = s[:at] + "." + s[at:]
		case 1:
			s = s[:at] + s[to:]
		default:
			s = s[:at] + "," + s[to:]
		}
	}
	return s[:min(len(s), 200)]
}

// TestWhatIsNearMayBe: texts that differ by no more than so much may be such,
// whatever the grams' length.
func TestWhatIsNearMayBe(t *testing.T) {
	texts := textsOf("ab", 5)
	for _, a := range texts {
		for _, b := range texts {
			for q := int64(1); q <= 10; q++ {
				dist := impl.Distance(a, b, false)
				checkMayBe(t, a, b, dist, q, true)
				checkMayBe(t, a, b, dist+1, q, true)
			}
		}
	}
	r := rand.New(rand.NewPCG(16, 4))
	for range 300 {
		a := someText(r, "abcdefghijkl", r.IntN(201))
		b := faulty(r, a, r.IntN(12))
		dist := impl.Distance(a, b, false)
		for q := int64(1); q <= 10; q++ {
			checkMayBe(t, a, b, dist, q, true)
			checkMayBe(t, a, b, min(dist+3, 200), q, true)
		}
	}
}

// checkNearBy also looks whether the words' tree finds the same.
func checkNearBy(t *testing.T, l []string, w string, k int64, q int64) {
	t.Helper()
	got, ok := impl.NearBy(l, w, k, q)
	if want := wantNear(l, w, k); !slices.Equal(got, want) || !ok {
		t.Errorf("NearBy(%q, %q, %d, %d) = %q, %v, want %q", l, w, k, q, got, ok, want)
	}
	tree, _ := impl.BkOf(l)
	if found, ok := impl.Near(tree, w, k); !slices.Equal(got, found) || !ok {
		t.Errorf("NearBy(%q, %q, %d, %d) = %q, and their tree finds %q", l, w, k, q, got, found)
	}
}

func checkNotNearBy(t *testing.T, l []string, w string, k int64, q int64) {
	t.Helper()
	if got, ok := impl.NearBy(l, w, k, q); len(got) != 0 || ok {
		t.Errorf("NearBy(%q, %q, %d, %d) = %q, %v", l, w, k, q, got, ok)
	}
}

func TestNearBy(t *testing.T) {
	l := []string{"cab", "ab", "abc", "", "ab", "zzz", "a", "AB", "", "cab"}
	for _, c := range []struct {
		w    string
		k    int64
		want []string
	}{
		{"ab", 0, []string{"ab"}},
		{"ab", 1, []string{"a", "ab", "abc", "cab"}},
		{"ab", 2, []string{"", "AB", "a", "ab", "abc", "cab"}},
		{"aB", 1, []string{"AB", "a", "ab"}},
		{"", 0, []string{""}},
		{"", 1, []string{"", "a"}},
		{"xyz", 1, nil},
		{"xyz", 2, []string{"zzz"}},
		{"zzz", 20, []string{"", "AB", "a", "ab", "abc", "cab", "zzz"}},
	} {
		for q := int64(1); q <= 10; q++ {
			checkNearBy(t, l, c.w, c.k, q)
			if got, _ := impl.NearBy(l, c.w, c.k, q); !slices.Equal(got, c.want) {
				t.Errorf("NearBy(%q, %d, %d) = %q, want %q", c.w, c.k, q, got, c.want)
			}
		}
	}
}

func TestNearByIsWhatATreeFinds(t *testing.T) {
	for _, l := range listsOfWords([]string{"", "a", "ab", "ba"}, 3) {
		for _, w := range []string{"", "a", "bab"} {
			for k := range int64(4) {
				checkNearBy(t, l, w, k, 1)
				checkNearBy(t, l, w, k, 2)
				checkNearBy(t, l, w, k, 10)
			}
		}
	}
	r := rand.New(rand.NewPCG(16, 5))
	for range 60 {
		l := someWords(r, r.IntN(31), 1+r.IntN(20))
		for _, w := range append(nearTexts(), l[:len(l)/2]...) {
			for _, k := range []int64{0, 1, 3, 20} {
				checkNearBy(t, l, w, k, int64(1+r.IntN(10)))
			}
		}
	}
}

func TestNearByAtItsLimits(t *testing.T) {
	long := strings.Repeat("ab", 10)
	for _, l := range [][]string{nil, {}, {""}, {long, "", long}, slices.Repeat([]string{"a"}, 30), slices.Repeat([]string{"", long, "abc"}, 10)} {
		for _, w := range []string{"", "a", long, strings.Repeat("z", 20)} {
			for _, q := range []int64{1, 2, 10} {
				for _, k := range []int64{0, 1, 19, 20} {
					checkNearBy(t, l, w, k, q)
				}
				for _, k := range []int64{-1, 21, math.MinInt64, math.MaxInt64} {
					checkNotNearBy(t, l, w, k, q)
				}
			}
			for _, q := range wrongLengths() {
				checkNotNearBy(t, l, w, 0, q)
				checkNotNearBy(t, l, w, 20, q)
			}
		}
		for _, w := range []string{long + "a", strings.Repeat("a", 201)} {
			checkNotNearBy(t, l, w, 1, 2)
			checkNotNearBy(t, l, w, 20, 1)
		}
	}
}

func TestNearByOfWrongWords(t *testing.T) {
	for _, l := range [][]string{
		slices.Repeat([]string{"a"}, 31), slices.Repeat([]string{""}, 31), slices.Repeat([]string{"a", "b"}, 200),
		{strings.Repeat("a", 21)}, {"a", "", strings.Repeat("a", 21), "b"}, {"a", strings.Repeat("a", 201)},
	} {
		checkNoWords(t, l)
		for _, w := range []string{"", "a"} {
			for _, k := range []int64{0, 1, 20} {
				checkNotNearBy(t, l, w, k, 1)
				checkNotNearBy(t, l, w, k, 10)
			}
		}
	}
}

func TestGramsAreOnlyRead(t *testing.T) {
	for _, want := range [][]string{nil, {"cab", "", "ab", "ab", "a"}, {"b", "a", strings.Repeat("a", 21)}} {
		l := withRoom(want, "behind")
		for _, q := range []int64{0, 1, 2} {
			impl.NearBy(l, "ab", 2, q)
			impl.NearBy(l, "ab", 21, q)
		}
		checkRoom(t, l, want, "behind")
	}
}

func TestGramsAreNewMemory(t *testing.T) {
	texts, ruin := clobber("baab")
	grams, again := impl.GramsOf(texts[0], 2), impl.GramsOf(texts[0], 2)
	ruin()
	if fmt.Sprint(grams) != "[aa ab ba]" {
		t.Errorf("the grams have become %q", grams)
	}
	clear(grams)
	if fmt.Sprint(again) != "[aa ab ba]" {
		t.Errorf("two answers share their memory: %q", again)
	}
	l, ruin := clobber("book", "boo", "", "boo", "cake")
	near, _ := impl.NearBy(l, "boo", 1, 2)
	more, _ := impl.NearBy(l, "boo", 1, 2)
	ruin()
	if fmt.Sprint(near) != "[boo book]" {
		t.Errorf("the words have become %q", near)
	}
	clear(near)
	if fmt.Sprint(more) != "[boo book]" {
		t.Errorf("two answers share their memory: %q", more)
	}
}
