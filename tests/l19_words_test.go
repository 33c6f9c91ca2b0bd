package tests

import (
	"fmt"
	"math"
	"math/rand/v2"
	"slices"
	"strings"
	"testing"

	"loop.example/g00568/impl"
)

// ofWord tells whether all bytes are letters or digits, by the tables of
// letters.
func ofWord(s string) bool {
	return strings.Trim(s, capitals+smalls+"0123456789") == ""
}

// wantWords tries each part of the text.
func wantWords(text string) []impl.Span {
	var words []impl.Span
	for from := range len(text) {
		for to := from + 1; to <= len(text) && ofWord(text[to-1:to]); to++ {
			if begins, ends := from == 0 || !ofWord(text[from-1:from]), to == len(text) || !ofWord(text[to:to+1]); begins && ends {
				words = append(words, impl.Span{From: int64(from), To: int64(to)})
			}
		}
	}
	return words
}

func wantWholeEnds(p impl.Pattern, text string) []impl.End {
	var ends []impl.End
	for _, w := range wantWords(text) {
		if dist := impl.Distance(text[w.From:w.To], p.Text, p.Fold); dist <= p.K {
			ends = append(ends, impl.End{At: w.To, Dist: dist})
		}
	}
	return ends
}

func wantBeginning(a string, b string) int64 {
	least := impl.Distance(a, b, false)
	for to := range len(b) {
		least = min(least, impl.Distance(a, b[:to], false))
	}
	return least
}

// wantFirst goes distance by distance and takes the words that are so far.
func wantFirst(l []string, k int64, most int64, far func(word string) int64) []string {
	var first []string
	for dist := range k + 1 {
		var ring []string
		for _, word := range l {
			if far(word) == dist && !slices.Contains(ring, word) {
				ring = append(ring, word)
			}
		}
		slices.Sort(ring)
		first = append(first, ring...)
	}
	return first[:min(int64(len(first)), most)]
}

func checkWords(t *testing.T, text string, want []impl.Span) {
	t.Helper()
	if got := impl.WordsOf(text); !slices.Equal(got, want) {
		t.Errorf("WordsOf(%q) = %+v, want %+v", text, got, want)
	}
}

// checkWholeEnds also looks whether a piece ends there that is no farther.
func checkWholeEnds(t *testing.T, p impl.Pattern, text string, want []impl.End) {
	t.Helper()
	got := impl.WholeEnds(p, text)
	if !slices.Equal(got, want) {
		t.Errorf("WholeEnds(%+v, %q) = %+v, want %+v", p, text, got, want)
	}
	ends := impl.EndsOf(p, text)
	for _, e := range got {
		if !slices.ContainsFunc(ends, func(x impl.End) bool { return x.At == e.At && x.Dist <= e.Dist }) {
			t.Errorf("WholeEnds(%+v, %q) = %+v, and EndsOf %+v", p, text, got, ends)
		}
	}
}

func checkBeginning(t *testing.T, a string, b string, want int64) {
	t.Helper()
	if got := impl.StartDist(a, b); got != want {
		t.Errorf("StartDist(%q, %q) = %d, want %d", a, b, got, want)
	}
}

func checkSuggested(t *testing.T, l []string, w string, k int64, most int64, want []string) {
	t.Helper()
	if got := impl.Suggested(l, w, k, most); !slices.Equal(got, want) {
		t.Errorf("Suggested(%q, %q, %d, %d) = %q, want %q", l, w, k, most, got, want)
	}
}

func checkCompleted(t *testing.T, l []string, w string, k int64, most int64, want []string) {
	t.Helper()
	if got := impl.Completed(l, w, k, most); !slices.Equal(got, want) {
		t.Errorf("Completed(%q, %q, %d, %d) = %q, want %q", l, w, k, most, got, want)
	}
}

// checkAsked holds both against what the document says.
func checkAsked(t *testing.T, l []string, w string, k int64, most int64) {
	t.Helper()
	checkSuggested(t, l, w, k, most, wantFirst(l, k, most, func(word string) int64 { return impl.Distance(word, w, false) }))
	checkCompleted(t, l, w, k, most, wantFirst(l, k, most, func(word string) int64 { return wantBeginning(w, word) }))
}

func checkNotAsked(t *testing.T, l []string, w string, k int64, most int64) {
	t.Helper()
	checkSuggested(t, l, w, k, most, nil)
	checkCompleted(t, l, w, k, most, nil)
}

func TestWordsOf(t *testing.T) {
	for _, c := range []struct {
		text string
		want []impl.Span
	}{
		{"", nil},
		{" ", nil},
		{".-\n\x00 \xff", nil},
		{"a", []impl.Span{{From: 0, To: 1}}},
		{"aZ09bY18", []impl.Span{{From: 0, To: 8}}},
		{"ab c9-d! ", []impl.Span{{From: 0, To: 2}, {From: 3, To: 5}, {From: 6, To: 7}}},
		{" ab", []impl.Span{{From: 1, To: 3}}},
		{"ab ", []impl.Span{{From: 0, To: 2}}},
		{"  ab  9  ", []impl.Span{{From: 2, To: 4}, {From: 6, To: 7}}},
		{"a_b", []impl.Span{{From: 0, To: 1}, {From: 2, To: 3}}},
		{"it's", []impl.Span{{From: 0, To: 2}, {From: 3, To: 4}}},
		{"/0189:", []impl.Span{{From: 1, To: 5}}},
		{"@AMZ[", []impl.Span{{From: 1, To: 4}}},
		{"`amz{", []impl.Span{{From: 1, To: 4}}},
		{"z\u00e4h", []impl.Span{{From: 0, To: 1}, {From: 3, To: 4}}}, // two bytes between
		{"\xc1\xe1\xb0a\xda\xfa\xb9", []impl.Span{{From: 3, To: 4}}},
	} {
		checkWords(t, c.text, c.want)
	}
}

func TestWordsOfEachByte(t *testing.T) {
	for i := range 256 {
		b := allBytes()[i : i+1]
		for _, text := range []string{b, b + b, "a" + b + "9", b + "Z", "0" + b, "." + b + ".", b + ".", "." + b} {
			checkWords(t, text, wantWords(text))
		}
		if is := len(impl.WordsOf(b)) == 1; is != (i >= '0' && i <= '9' || i >= 'A' && i <= 'Z' || i >= 'a' && i <= 'z') {
			t.Errorf("%d is a word: %v", i, is)
		}
	}
	for _, text := range []string{allBytes()[:200], allBytes()[56:]} {
		checkWords(t, text, wantWords(text))
	}
}

func TestWordsOfSomeTexts(t *testing.T) {
	for _, text := range textsOf("a0.", 6) {
		checkWords(t, text, wantWords(text))
	}
	r := rand.New(rand.NewPCG(19, 1))
	for range 100 {
		text := someText(r, "abAZ09/:@[`{\x80\xff", r.IntN(201))
		checkWords(t, text, wantWords(text))
	}
}

func TestWordsOfLongTexts(t *testing.T) {
	full := strings.Repeat("a.", 100)
	checkWords(t, strings.Repeat("a", 200), []impl.Span{{From: 0, To: 200}})
	checkWords(t, strings.Repeat(".", 200), nil)
	checkWords(t, full, wantWords(full))
	checkWords(t, full[1:]+"a", wantWords(full[1:]+"a"))
	if words := impl.WordsOf(full[1:] + "a"); len(words) != 100 || words[99] != (impl.Span{From: 199, To: 200}) {
		t.Errorf("WordsOf of 200 bytes = %+v", words)
	}
	for _, long := range []string{full + "a", full + ".", strings.Repeat("a", 201), full + full, strings.Repeat("a", 256)} {
		checkWords(t, long, nil)
	}
}

func TestWholeEnds(t *testing.T) {
	for _, c := range []struct {
		p    impl.Pattern
		text string
		want []impl.End
	}{
		{impl.Pattern{Text: "abc", K: 1}, "abd xabc ab", []impl.End{{At: 3, Dist: 1}, {At: 8, Dist: 1}, {At: 11, Dist: 1}}},
		{impl.Pattern{Text: "abc"}, "abc xabc abc", []impl.End{{At: 3}, {At: 12}}},
		{impl.Pattern{Text: "abc"}, "abcabc abcd dabc", nil},
		{impl.Pattern{Text: "abc"}, "ABC Abc abc", []impl.End{{At: 11}}},
		{impl.Pattern{Text: "aBc", Fold: true}, "ABC Abc abc", []impl.End{{At: 3}, {At: 7}, {At: 11}}},
		{impl.Pattern{Text: "abc", K: 2}, "ABC Abc aBC", []impl.End{{At: 7, Dist: 1}, {At: 11, Dist: 2}}},
		{impl.Pattern{Text: "abc", K: 1}, "", nil},
		{impl.Pattern{Text: "abc", K: 4}, ".. ..", nil},                       // no words
		{impl.Pattern{Text: "ab", K: 4}, ".x.", []impl.End{{At: 2, Dist: 2}}}, // may be left out whole
		{impl.Pattern{Text: "a b"}, "a b", nil},                               // two words
		{impl.Pattern{Text: "a b", K: 2}, "a b", []impl.End{{At: 1, Dist: 2}, {At: 3, Dist: 2}}},
		{impl.Pattern{Text: "a-b", K: 1}, "axb ab", []impl.End{{At: 3, Dist: 1}, {At: 6, Dist: 1}}},
		{impl.Pattern{Text: "ab"}, "\xffab\x80ab\x00", []impl.End{{At: 3}, {At: 6}}},
		{impl.Pattern{Text: "9a"}, "9a 9 a", []impl.End{{At: 2}}},
	} {
		checkWholeEnds(t, c.p, c.text, c.want)
	}
}

func TestWholeEndsOfEachShortText(t *testing.T) {
	for _, text := range textsOf("aAb.", 5) {
		for _, p := range []impl.Pattern{{Text: "a"}, {Text: "ab", Fold: true}, {Text: "ab", K: 1}, {Text: "a.b", K: 1, Fold: true}, {Text: "Ba", K: 2}} {
			checkWholeEnds(t, p, text, wantWholeEnds(p, text))
		}
	}
}

func TestWholeEndsOfSomeTexts(t *testing.T) {
	r := rand.New(rand.NewPCG(19, 2))
	for range 150 {
		p := somePattern(r, "abAB", 1+r.IntN(20))
		var text string
		for len(text) < 150 {
			text += faulty(r, p.Text, r.IntN(3)) + "-"[r.IntN(2):] + someText(r, "aA .", r.IntN(5))
		}
		for _, s := range []string{text[:min(len(text), 200)], p.Text, someText(r, "abAB. ", r.IntN(201))} {
			s = strings.ReplaceAll(s, ",", "x")
			checkWholeEnds(t, p, s, wantWholeEnds(p, s))
		}
	}
}

func TestWholeEndsAtItsLimits(t *testing.T) {
	full := strings.Repeat("abc.", 50)
	p := impl.Pattern{Text: "abd", K: 1}
	checkWholeEnds(t, p, full, wantWholeEnds(p, full))
	checkWholeEnds(t, p, "."+full[1:199]+"c", wantWholeEnds(p, "."+full[1:199]+"c"))
	checkWholeEnds(t, p, full[:197]+"abc", wantWholeEnds(p, full[:197]+"abc"))
	for _, p := range []impl.Pattern{p, {Text: "abc"}, {Text: "a", K: 4, Fold: true}} {
		for _, long := range []string{full + "a", full + ".", full + full, strings.Repeat("abc.", 64)} {
			checkWholeEnds(t, p, long, nil)
		}
		checkWholeEnds(t, p, strings.Repeat("a", 200), nil)
	}
	for _, p := range wrongPatterns() {
		for _, text := range []string{"", "a", "abc", "abc abc", full, full + "a"} {
			checkWholeEnds(t, p, text, nil)
		}
	}
}

func TestStartDist(t *testing.T) {
	for _, c := range []struct {
		a, b string
		want int64
	}{
		{"", "", 0},
		{"", "abc", 0},
		{"abc", "", 3},
		{"abc", "abc", 0},
		{"abc", "abcdef", 0},
		{"abcdef", "abc", 3},
		{"abc", "axcdef", 1},
		{"abc", "acdef", 1},
		{"abc", "abxcdef", 1},
		{"abc", "xabcdef", 1},
		{"abc", "xyzabc", 3}, // the empty beginning is as near as all of it
		{"abc", "xxxxabc", 3},
		{"abc", "bc", 1}, // all of it
		{"abc", "ABC", 3},
		{"aB", "ab", 1},
		{"ab", "ba", 1}, // b alone
		{"\xff\x00", "\xff\x00\x80", 0},
	} {
		checkBeginning(t, c.a, c.b, c.want)
	}
	texts := textsOf("aAb", 4)
	for _, a := range texts {
		for _, b := range texts {
			checkBeginning(t, a, b, wantBeginning(a, b))
		}
	}
}

func TestStartDistOfLongTexts(t *testing.T) {
	r := rand.New(rand.NewPCG(19, 3))
	for range 20 {
		a, b := someText(r, "abA", r.IntN(60)), someText(r, "abA", r.IntN(90))
		near := faulty(r, a, 2) + b
		checkBeginning(t, a, b, wantBeginning(a, b))
		checkBeginning(t, a, near, wantBeginning(a, near))
	}
	full := strings.Repeat("ab", 100)
	checkBeginning(t, full, full, 0)
	checkBeginning(t, full[:100], full, 0)
	checkBeginning(t, full, full[:100], 100)
	checkBeginning(t, full, "", 200)
	checkBeginning(t, "", full, 0)
	checkBeginning(t, strings.Repeat("c", 200), full, 200)
	for _, long := range []string{full + "a", full + full, strings.Repeat("a", 256)} {
		for _, text := range []string{"", "a", full, long} {
			checkBeginning(t, long, text, -1)
			checkBeginning(t, text, long, -1)
		}
	}
}

func TestSuggested(t *testing.T) {
	l := []string{"cab", "ab", "abc", "ab", "abcdef", "zzz", "", "AB", "cab"}
	for _, c := range []struct {
		w       string
		k, most int64
		want    []string
	}{
		{"ab", 0, 9, []string{"ab"}},
		{"ab", 1, 9, []string{"ab", "abc", "cab"}},
		{"ab", 1, 3, []string{"ab", "abc", "cab"}},
		{"ab", 1, 2, []string{"ab", "abc"}},
		{"ab", 1, 1, []string{"ab"}},
		{"ab", 1, 0, nil},
		{"ab", 1, -1, nil},
		{"ab", 2, 9, []string{"ab", "abc", "cab", "", "AB"}},
		{"ab", 20, 9, []string{"ab", "abc", "cab", "", "AB", "zzz", "abcdef"}},
		{"", 2, 9, []string{"", "AB", "ab"}},
		{"zz", 1, 9, []string{"zzz"}},
		{"xyz", 1, 9, nil},
	} {
		checkSuggested(t, l, c.w, c.k, c.most, c.want)
	}
}

func TestCompleted(t *testing.T) {
	l := []string{"cab", "ab", "abc", "ab", "abcdef", "zzz", "", "ABC", "cab"}
	for _, c := range []struct {
		w       string
		k, most int64
		want    []string
	}{
		{"ab", 0, 9, []string{"ab", "abc", "abcdef"}},
		{"ab", 1, 9, []string{"ab", "abc", "abcdef", "cab"}},
		{"ab", 1, 4, []string{"ab", "abc", "abcdef", "cab"}},
		{"ab", 1, 3, []string{"ab", "abc", "abcdef"}},
		{"ab", 0, 1, []string{"ab"}},
		{"ab", 0, 0, nil},
		{"ab", 0, -1, nil},
		{"ab", 2, 9, []string{"ab", "abc", "abcdef", "cab", "", "ABC", "zzz"}},
		{"", 0, 9, []string{"", "ABC", "ab", "abc", "abcdef", "cab", "zzz"}},
		{"abcdefg", 1, 9, []string{"abcdef"}},
		{"bcd", 1, 9, []string{"abcdef"}},
		{"xyz", 1, 9, nil},
	} {
		checkCompleted(t, l, c.w, c.k, c.most, c.want)
	}
}

func TestWordsAskedOfEachShortList(t *testing.T) {
	for _, l := range listsOfWords([]string{"", "a", "ab", "ba", "bab"}, 3) {
		for _, w := range []string{"", "a", "ba", "bb"} {
			for k := range int64(4) {
				for _, most := range []int64{0, 1, 2, 3, 4} {
					checkAsked(t, l, w, k, most)
				}
			}
		}
	}
}

// TestWhatIsSuggestedIsNear: nearest first, and no word that is near enough is
// left out when there may be so many; each word that begins with a text
// completes it.
func TestWhatIsSuggestedIsNear(t *testing.T) {
	r := rand.New(rand.NewPCG(19, 4))
	for range 60 {
		l := someWords(r, r.IntN(31), 1+r.IntN(20))
		for _, w := range append(nearTexts(), l[:len(l)/3]...) {
			for _, k := range []int64{0, 1, 3, 20} {
				checkAsked(t, l, w, k, int64(r.IntN(32)))
				all := impl.Suggested(l, w, k, 30)
				if !slices.IsSortedFunc(all, func(a, b string) int {
					return int(impl.Distance(a, w, false) - impl.Distance(b, w, false))
				}) {
					t.Errorf("Suggested(%q, %q, %d) = %q", l, w, k, all)
				}
				slices.Sort(all)
				if want := wantNear(l, w, k); !slices.Equal(all, want) {
					t.Errorf("Suggested(%q, %q, %d) has %q, want %q", l, w, k, all, want)
				}
				completed := impl.Completed(l, w, k, 30)
				for _, word := range l {
					if strings.HasPrefix(word, w) && !slices.Contains(completed, word) {
						t.Errorf("%q does not complete %q: %q", word, w, completed)
					}
				}
			}
		}
	}
}

func TestWordsAskedAtTheirLimits(t *testing.T) {
	long := strings.Repeat("ab", 10)
	for _, l := range [][]string{nil, {}, {""}, {long, "", long}, slices.Repeat([]string{"a"}, 30), slices.Repeat([]string{"", long, "abc"}, 10), someWords(rand.New(rand.NewPCG(19, 5)), 30, 20)} {
		for _, w := range []string{"", "a", long, strings.Repeat("z", 20)} {
			for _, k := range []int64{0, 1, 19, 20} {
				for _, most := range []int64{0, 1, 29, 30, 31, 1 << 32, math.MaxInt64} {
					checkAsked(t, l, w, k, most)
				}
				for _, most := range []int64{-1, -30, math.MinInt64} {
					checkNotAsked(t, l, w, k, most)
				}
			}
			for _, k := range []int64{-1, 21, 200, 1 << 32, math.MinInt64, math.MaxInt64} {
				checkNotAsked(t, l, w, k, 9)
			}
		}
		for _, w := range []string{long + "a", strings.Repeat("a", 201), strings.Repeat("a", 256)} {
			for _, k := range []int64{0, 1, 20} {
				checkNotAsked(t, l, w, k, 9)
			}
		}
	}
}

func TestWordsAskedOfWrongWords(t *testing.T) {
	for _, l := range [][]string{
		slices.Repeat([]string{"a"}, 31), slices.Repeat([]string{""}, 31), slices.Repeat([]string{"a", "b"}, 150),
		{strings.Repeat("a", 21)}, {"a", "", strings.Repeat("a", 21), "b"}, {"a", strings.Repeat("a", 201)},
	} {
		checkNoWords(t, l)
		for _, w := range []string{"", "a", strings.Repeat("a", 20)} {
			for _, k := range []int64{0, 1, 20} {
				checkNotAsked(t, l, w, k, 9)
				checkNotAsked(t, l, w, k, 1)
			}
		}
	}
}

func TestWordsAskedAreOnlyRead(t *testing.T) {
	for _, want := range [][]string{nil, {"cab", "", "ab", "ab", "a"}, {"b", "a", strings.Repeat("a", 21)}} {
		l := withRoom(want, "behind")
		for _, k := range []int64{0, 2, 21} {
			for _, ask := range []func([]string, string, int64, int64) []string{impl.Suggested, impl.Completed} {
				clear(append(ask(l, "ab", k, 3), "more"))
			}
		}
		checkRoom(t, l, want, "behind")
	}
}

func TestWordsAskedAreNewMemory(t *testing.T) {
	for _, ask := range []func([]string, string, int64, int64) []string{impl.Suggested, impl.Completed} {
		l, ruin := clobber("book", "boo", "", "boo", "cake")
		first, again := ask(l, "boo", 1, 5), ask(l, "boo", 1, 5)
		ruin()
		if fmt.Sprint(first) != "[boo book]" {
			t.Errorf("the words have become %q", first)
		}
		clear(first)
		if fmt.Sprint(again) != "[boo book]" {
			t.Errorf("two answers share their memory: %q", again)
		}
	}
	words, again := impl.WordsOf("a bc"), impl.WordsOf("a bc")
	ends, more := impl.WholeEnds(impl.Pattern{Text: "a"}, "a a"), impl.WholeEnds(impl.Pattern{Text: "a"}, "a a")
	clear(words)
	clear(ends)
	if fmt.Sprint(again, more) != "[{0 1} {2 4}] [{1 0} {3 0}]" {
		t.Errorf("two answers share their memory: %+v, %+v", again, more)
	}
}
