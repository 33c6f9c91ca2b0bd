package tests

import (
	"fmt"
	"math"
	"math/rand/v2"
	"slices"
	"strings"
	"testing"
	"unsafe"

	"loop.example/g00568/impl"
)

// wantTreeWith puts a word into a tree as the document says.
func wantTreeWith(t []impl.Bk, word string) []impl.Bk {
	if len(t) == 0 {
		return []impl.Bk{{Word: word}}
	}
	at := 0
	for t[at].Word != word {
		dist := impl.Distance(t[at].Word, word, false)
		next := slices.IndexFunc(t, func(b impl.Bk) bool {
			return b.Up == int64(at) && b.Dist == dist
		})
		if next < 0 {
			return append(t, impl.Bk{Word: word, Dist: dist, Up: int64(at)})
		}
		at = next
	}
	return t
}

func wantTree(l []string) []impl.Bk {
	var t []impl.Bk
	for _, word := range l {
		t = wantTreeWith(t, word)
	}
	return t
}

func wantWordsOk(l []string) bool {
	for _, word := range l {
		if len(word) > 20 {
			return false
		}
	}
	return len(l) <= 30
}

func wordsOfTree(t []impl.Bk) []string {
	l := make([]string, len(t))
	for i, b := range t {
		l[i] = b.Word
	}
	return l
}

// wantNear gives the words that are near enough, rising.
func wantNear(l []string, w string, k int64) []string {
	var near []string
	for _, word := range l {
		if impl.Distance(word, w, false) <= k && !slices.Contains(near, word) {
			near = append(near, word)
		}
	}
	slices.Sort(near)
	return near
}

// checkTree also looks whether each word stands once.
func checkTree(t *testing.T, l []string) []impl.Bk {
	t.Helper()
	got, ok := impl.BkOf(l)
	if want := wantTree(l); !slices.Equal(got, want) || !ok || !impl.BkOk(got) {
		t.Errorf("BkOf(%q) = %+v, %v, want %+v", l, got, ok, want)
	}
	for _, word := range l {
		if standing := slices.DeleteFunc(wordsOfTree(got), func(x string) bool { return x != word }); len(standing) != 1 {
			t.Errorf("%q stands %d times in %+v", word, len(standing), got)
		}
	}
	return got
}

func checkNoWords(t *testing.T, l []string) {
	t.Helper()
	if got, ok := impl.BkOf(l); len(got) != 0 || ok {
		t.Errorf("BkOf(%q) = %+v, %v", l, got, ok)
	}
}

func checkNear(t *testing.T, tree []impl.Bk, w string, k int64) {
	t.Helper()
	want := wantNear(wordsOfTree(tree), w, k)
	if got, ok := impl.Near(tree, w, k); !slices.Equal(got, want) || !ok {
		t.Errorf("Near(%+v, %q, %d) = %q, %v, want %q", tree, w, k, got, ok, want)
	}
}

func checkNotNear(t *testing.T, tree []impl.Bk, w string, k int64) {
	t.Helper()
	if got, ok := impl.Near(tree, w, k); len(got) != 0 || ok {
		t.Errorf("Near(%+v, %q, %d) = %q, %v", tree, w, k, got, ok)
	}
}

func checkWrongTree(t *testing.T, tree []impl.Bk) {
	t.Helper()
	if impl.BkOk(tree) {
		t.Errorf("BkOk(%+v) is true", tree)
	}
	for _, w := range []string{"", "a", "abc"} {
		for _, k := range []int64{0, 1, 20} {
			checkNotNear(t, tree, w, k)
		}
	}
}

// nearTexts are words that others are near to, and such as no word is.
func nearTexts() []string {
	return []string{"", "a", "b", "ab", "ba", "aB", "bab", "abab", "book", "xyz", strings.Repeat("ab", 10), strings.Repeat("z", 20)}
}

func TestMaxWords(t *testing.T) {
	if impl.MaxWords != 30 {
		t.Errorf("MaxWords is %d", impl.MaxWords)
	}
}

func TestBkOf(t *testing.T) {
	for _, c := range []struct {
		words []string
		want  []impl.Bk
	}{
		{nil, nil},
		{[]string{}, nil},
		{[]string{"a"}, []impl.Bk{{Word: "a"}}},
		{[]string{""}, []impl.Bk{{Word: ""}}},
		{[]string{"", ""}, []impl.Bk{{Word: ""}}},
		{[]string{"a", "a", "a"}, []impl.Bk{{Word: "a"}}},
		{[]string{"", "a", "ab", "b", ""}, []impl.Bk{{Word: ""}, {Word: "a", Dist: 1}, {Word: "ab", Dist: 2}, {Word: "b", Dist: 1, Up: 1}}},
		{[]string{"a", "", "b", ""}, []impl.Bk{{Word: "a"}, {Word: "", Dist: 1}, {Word: "b", Dist: 1, Up: 1}}},
		{[]string{"ab", "abc", "", "cab", "a", "", "cab"}, []impl.Bk{{Word: "ab"}, {Word: "abc", Dist: 1}, {Word: "", Dist: 2}, {Word: "cab", Dist: 2, Up: 1}, {Word: "a", Dist: 2, Up: 3}}},
		{[]string{"a", "b", "c", "d"}, []impl.Bk{{Word: "a"}, {Word: "b", Dist: 1}, {Word: "c", Dist: 1, Up: 1}, {Word: "d", Dist: 1, Up: 2}}},
		{[]string{"a", "A", "a", "A"}, []impl.Bk{{Word: "a"}, {Word: "A", Dist: 1}}},
		{[]string{"\x00\xff", "\xff", "\x00", "\n"}, []impl.Bk{{Word: "\x00\xff"}, {Word: "\xff", Dist: 1}, {Word: "\x00", Dist: 1, Up: 1}, {Word: "\n", Dist: 2}}},
	} {
		if got := checkTree(t, c.words); !slices.Equal(got, c.want) {
			t.Errorf("BkOf(%q) = %+v, want %+v", c.words, got, c.want)
		}
	}
}

// listsOfWords gives all lists of at most so many of the words.
func listsOfWords(words []string, most int) [][]string {
	var out [][]string
	for _, places := range listsOf(0, int64(len(words))-1, most) {
		var l []string
		for _, at := range places {
			l = append(l, words[at])
		}
		out = append(out, l)
	}
	return out
}

func TestBkOfEachFewWords(t *testing.T) {
	for _, l := range listsOfWords([]string{"", "a", "ab", "ba", "bab"}, 4) {
		tree := checkTree(t, l)
		for _, w := range []string{"", "b", "aba"} {
			for k := range int64(5) {
				checkNear(t, tree, w, k)
			}
		}
	}
}

// someWords gives so many words, of which some may be empty and some the same.
func someWords(r *rand.Rand, count int, longest int) []string {
	var l []string
	for range count {
		l = append(l, someText(r, "abB\xff", r.IntN(longest+1)))
	}
	return l
}

func TestTreesOfSomeWords(t *testing.T) {
	r := rand.New(rand.NewPCG(15, 1))
	for range 150 {
		l := someWords(r, r.IntN(31), 1+r.IntN(20))
		tree := checkTree(t, l)
		for _, w := range append(nearTexts(), l[:len(l)/2]...) {
			for _, k := range []int64{0, 1, 2, 3, 7, 19, 20} {
				checkNear(t, tree, w, k)
			}
		}
	}
}

// TestBkOfAtItsLimits: words that stand once only are counted as often as they
// are in the list.
func TestBkOfAtItsLimits(t *testing.T) {
	r := rand.New(rand.NewPCG(15, 2))
	long := strings.Repeat("ab", 10)
	for _, l := range [][]string{
		someWords(r, 31, 8), slices.Repeat([]string{""}, 31), slices.Repeat([]string{"a"}, 31), slices.Repeat([]string{long}, 31),
	} {
		checkTree(t, l[:29])
		checkTree(t, l[:30])
		checkNoWords(t, l)
		checkNoWords(t, slices.Repeat(l, 10))
	}
	checkTree(t, []string{long, long[1:], long, "", strings.Repeat("\x00", 20)})
	for _, word := range []string{long + "a", strings.Repeat("a", 201), strings.Repeat("\xff", 276)} {
		checkNoWords(t, []string{word})
		for at := range 5 {
			l := []string{"a", "", "abc", long, "a"}
			l[at] = word
			checkNoWords(t, l)
		}
	}
}

func TestNear(t *testing.T) {
	tree, _ := impl.BkOf([]string{"book", "", "books", "cake", "boo", "cape", "book", "cart", "Boo"})
	for _, c := range []struct {
		w    string
		k    int64
		want []string
	}{
		{"book", 0, []string{"book"}},
		{"bo", 0, nil},
		{"bo", 1, []string{"boo"}},
		{"bo", 2, []string{"", "Boo", "boo", "book"}},
		{"boo", 1, []string{"Boo", "boo", "book"}},
		{"caqe", 1, []string{"cake", "cape"}},
		{"CAKE", 1, nil},
		{"", 0, []string{""}},
		{"", 3, []string{"", "Boo", "boo"}},
		{"xyz", 20, []string{"", "Boo", "boo", "book", "books", "cake", "cape", "cart"}},
		{strings.Repeat("z", 20), 19, nil},
		{strings.Repeat("z", 20), 20, []string{"", "Boo", "boo", "book", "books", "cake", "cape", "cart"}},
	} {
		checkNear(t, tree, c.w, c.k)
		if got, ok := impl.Near(tree, c.w, c.k); !slices.Equal(got, c.want) || !ok {
			t.Errorf("Near(%q, %d) = %q, %v, want %q", c.w, c.k, got, ok, c.want)
		}
	}
}

func TestNearAtItsLimits(t *testing.T) {
	long := strings.Repeat("ab", 10)
	for _, l := range [][]string{nil, {""}, {"a"}, {"", "a", "ab", long}, {long, long[:19], "", "b"}} {
		tree, _ := impl.BkOf(l)
		for _, w := range nearTexts() {
			for _, k := range []int64{0, 1, 18, 19, 20} {
				checkNear(t, tree, w, k)
			}
			for _, k := range []int64{-1, 21, math.MinInt64, math.MaxInt64, 1 << 32} {
				checkNotNear(t, tree, w, k)
			}
		}
		for _, w := range []string{long + "a", strings.Repeat("a", 201), strings.Repeat("a", 256)} {
			for _, k := range []int64{0, 1, 20} {
				checkNotNear(t, tree, w, k)
			}
		}
	}
}

// TestNearInRowsOfNodes: each node stands under the one ahead, as all words
// differ in as much.
func TestNearInRowsOfNodes(t *testing.T) {
	var l []string
	for b := range 30 {
		l = append(l, strings.Repeat(string([]byte{byte(250 - b)}), 20))
	}
	tree := checkTree(t, l)
	if tree[29].Up != 28 || tree[29].Dist != 20 {
		t.Errorf("the last node is %+v", tree[29])
	}
	for _, w := range append(l, "", l[0][:10]+l[29][:10]) {
		for _, k := range []int64{0, 9, 10, 19, 20} {
			checkNear(t, tree, w, k)
		}
	}
}

// changedTrees gives trees that are turned in one field, or have a node more or
// less.
func changedTrees(tree []impl.Bk) [][]impl.Bk {
	var out [][]impl.Bk
	for at, b := range tree {
		change := func(b impl.Bk) {
			t := slices.Clone(tree)
			t[at] = b
			out = append(out, t)
		}
		for _, n := range []int64{b.Dist - 1, b.Dist + 1, -b.Dist, 0, 1, 20, 21, math.MinInt64, math.MaxInt64, b.Dist + 1<<32} {
			change(impl.Bk{Word: b.Word, Dist: n, Up: b.Up})
		}
		for _, n := range []int64{b.Up - 1, b.Up + 1, -b.Up, 0, int64(at), int64(at) + 1, int64(len(tree)), math.MinInt64, math.MaxInt64, b.Up + 1<<32} {
			change(impl.Bk{Word: b.Word, Dist: b.Dist, Up: n})
		}
		for _, word := range append(nearTexts(), b.Word+"a", b.Word+"x", strings.ToUpper(b.Word), strings.Repeat("a", 21), tree[0].Word, tree[len(tree)-1].Word) {
			change(impl.Bk{Word: word, Dist: b.Dist, Up: b.Up})
		}
		change(impl.Bk{})
		out = append(out, slices.Delete(slices.Clone(tree), at, at+1))
		for _, more := range []impl.Bk{{}, b, {Word: "new", Dist: b.Dist, Up: b.Up}} {
			out = append(out, slices.Insert(slices.Clone(tree), at, more), append(slices.Clone(tree), more))
		}
		other := slices.Clone(tree)
		other[0], other[at] = other[at], other[0]
		out = append(out, other)
	}
	return out
}

func TestBkOkOfEachChangedTree(t *testing.T) {
	right, wrong := 0, 0
	for _, l := range [][]string{{""}, {"a"}, {"", "a", "b"}, {"a", "", "ab", "b"}, {"book", "books", "cake", "boo", "cape", "", "cart"}} {
		tree := checkTree(t, l)
		for _, changed := range append(changedTrees(tree), tree[:len(tree)-1]) {
			words := wordsOfTree(changed)
			if wantWordsOk(words) && slices.Equal(wantTree(words), changed) {
				right++
				if !impl.BkOk(changed) {
					t.Errorf("BkOk(%+v) is false", changed)
				}
				checkNear(t, changed, "ab", 2)
			} else {
				wrong++
				checkWrongTree(t, changed)
			}
		}
	}
	if right == 0 || wrong == 0 {
		t.Errorf("%d trees are right, %d wrong", right, wrong)
	}
}

// TestTreesTurnedInOneField: by the words alone it is settled what else a node
// has.
func TestTreesTurnedInOneField(t *testing.T) {
	tree := checkTree(t, []string{"ab", "", "abc", "b", "cab", "xyz", "a"})
	for at := range tree {
		for _, by := range []int64{1, -1, 5, 1 << 40, math.MinInt64} {
			turned, moved := slices.Clone(tree), slices.Clone(tree)
			turned[at].Dist += by
			moved[at].Up += by
			checkWrongTree(t, turned)
			checkWrongTree(t, moved)
		}
		twice := append(slices.Clone(tree), tree[at])
		checkWrongTree(t, twice)
	}
}

func TestBkOkOfTooMany(t *testing.T) {
	var l []string
	for b := range 31 {
		l = append(l, strings.Repeat("x", b%16)+string([]byte{byte(b)}))
	}
	tree := wantTree(l)
	if len(tree) != 31 || !impl.BkOk(tree[:30]) {
		t.Errorf("%d words, and BkOk is %v", len(tree), impl.BkOk(tree[:30]))
	}
	checkNear(t, tree[:30], "xxx", 2)
	checkWrongTree(t, tree)
	checkWrongTree(t, slices.Repeat(tree, 20))
	for _, long := range []string{strings.Repeat("a", 21), strings.Repeat("a", 201)} {
		checkWrongTree(t, []impl.Bk{{Word: long}})
		checkWrongTree(t, []impl.Bk{{Word: "a"}, {Word: long, Dist: impl.Distance("a", long, false)}})
		checkWrongTree(t, []impl.Bk{{Word: long}, {Word: "a", Dist: impl.Distance("a", long, false)}})
	}
}

func TestTreesWithoutWords(t *testing.T) {
	if !impl.BkOk(nil) || !impl.BkOk([]impl.Bk{}) {
		t.Error("a tree without words is right")
	}
	for _, tree := range [][]impl.Bk{nil, {}} {
		for _, w := range nearTexts() {
			if near, ok := impl.Near(tree, w, 20); len(near) != 0 || !ok {
				t.Errorf("Near of no words = %q, %v", near, ok)
			}
		}
	}
}

// TestNearIsWhatDiffersByNoMore: with more faults nothing is lost, and with as
// many as a word differs in it is there.
func TestNearIsWhatDiffersByNoMore(t *testing.T) {
	r := rand.New(rand.NewPCG(15, 3))
	for range 20 {
		tree := checkTree(t, someWords(r, 30, 6))
		w := someText(r, "abB", r.IntN(7))
		var ahead []string
		for k := range int64(21) {
			near, _ := impl.Near(tree, w, k)
			for _, word := range ahead {
				if !slices.Contains(near, word) {
					t.Errorf("%q is near %q with %d faults, but not with %d", word, w, k-1, k)
				}
			}
			for i, word := range near {
				if impl.Distance(word, w, false) > k || i > 0 && near[i-1] >= word {
					t.Errorf("Near(%+v, %q, %d) = %q", tree, w, k, near)
				}
			}
			ahead = near
		}
		if len(ahead) != len(tree) {
			t.Errorf("of %d words %d are near with 20 faults", len(tree), len(ahead))
		}
	}
}

// behindTree is what withRoom writes behind a tree.
var behindTree = impl.Bk{Word: "behind", Dist: 77, Up: 77}

func TestTreesAreOnlyRead(t *testing.T) {
	for _, want := range [][]string{nil, {""}, {"b", "a", "", "a", "ab"}, {"z", "y", "x", strings.Repeat("a", 21)}, slices.Repeat([]string{"b", "a"}, 16)} {
		l := withRoom(want, "behind")
		impl.BkOf(l)
		checkRoom(t, l, want, "behind")
		tree := withRoom(wantTree(want), behindTree)
		impl.BkOk(tree)
		impl.Near(tree, "a", 2)
		impl.Near(tree, strings.Repeat("a", 21), -1)
		checkRoom(t, tree, wantTree(want), behindTree)
	}
}

// clobber gives texts that are parts of memory of their own, and what ruins it.
func clobber(words ...string) ([]string, func()) {
	memory := []byte(strings.Join(words, "") + "-")
	var parts []string
	at := 0
	for _, word := range words {
		parts = append(parts, unsafe.String(&memory[at], len(word)))
		at += len(word)
	}
	return parts, func() {
		for i := range memory {
			memory[i] = '!'
		}
	}
}

func TestTreesAreNewMemory(t *testing.T) {
	l, ruin := clobber("book", "boo", "", "cake")
	want := wantTree([]string{"book", "boo", "", "cake"})
	first, _ := impl.BkOf(l)
	again, _ := impl.BkOf(l)
	ruin()
	clear(l)
	if !slices.Equal(first, want) || !slices.Equal(again, want) {
		t.Errorf("the trees have become %+v and %+v", first, again)
	}
	clear(first)
	if !slices.Equal(again, want) {
		t.Errorf("two trees share their memory: %+v", again)
	}
	words, ruin := clobber("book", "boo", "", "cake")
	tree := wantTree(words)
	near, _ := impl.Near(tree, "boo", 3)
	more, _ := impl.Near(tree, "boo", 3)
	ruin()
	clear(tree)
	if fmt.Sprint(near) != "[ boo book]" || !slices.Equal(near, more) {
		t.Errorf("the words have become %q and %q", near, more)
	}
	clear(near)
	if fmt.Sprint(more) != "[ boo book]" {
		t.Errorf("two answers share their memory: %q", more)
	}
}
