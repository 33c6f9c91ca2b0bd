package tests

import (
	"math"
	"math/rand/v2"
	"slices"
	"strings"
	"testing"

	"loop.example/g00568/impl"
)

// beginningsOf gives the texts of a trie's nodes, in the order in which they
// are met.
func beginningsOf(l []string) []string {
	all := []string{""}
	for _, text := range l {
		for end := range len(text) + 1 {
			if !slices.Contains(all, text[:end]) {
				all = append(all, text[:end])
			}
		}
	}
	return all
}

// wantTrie tells each node by its text alone, without a way from node to node.
func wantTrie(l []string) []impl.Node {
	all := beginningsOf(l)
	t := make([]impl.Node, len(all))
	for at, text := range all[1:] {
		n, last := &t[at+1], len(text)-1
		parent := slices.Index(all, text[:last])
		n.Byte, n.Parent = int64(text[last]), int64(parent)
		t[parent].Kids = append(t[parent].Kids, int64(at+1))
		for from := last; from > 0; from-- { // the longest one comes last
			if place := slices.Index(all, text[from:]); place >= 0 {
				n.Fail = int64(place)
			}
		}
		for place, x := range l {
			if strings.HasSuffix(text, x) {
				n.Outs = append(n.Outs, int64(place))
			}
		}
	}
	return t
}

func sameTrie(a []impl.Node, b []impl.Node) bool {
	return slices.EqualFunc(a, b, func(x, y impl.Node) bool {
		return x.Byte == y.Byte && x.Parent == y.Parent && x.Fail == y.Fail && slices.Equal(x.Kids, y.Kids) && slices.Equal(x.Outs, y.Outs)
	})
}

func checkTrie(t *testing.T, l []string) {
	t.Helper()
	got, ok := impl.TrieOf(l)
	if want := wantTrie(l); !ok || !sameTrie(got, want) {
		t.Fatalf("TrieOf(%q) = %+v, %v, want %+v", l, got, ok, want)
	}
	if !impl.TrieOk(l, got) {
		t.Fatalf("TrieOk of TrieOf(%q) is false", l)
	}
}

func checkNoTrie(t *testing.T, l []string) {
	t.Helper()
	if got, ok := impl.TrieOf(l); ok || len(got) != 0 {
		t.Errorf("TrieOf(%q) = %d nodes, %v", l, len(got), ok)
	}
	for _, nodes := range [][]impl.Node{nil, {{}}, wantTrie(l)} {
		if impl.TrieOk(l, nodes) {
			t.Errorf("TrieOk(%q) of %d nodes is true", l, len(nodes))
		}
	}
}

// checkNoList also looks that nothing is found of a list that is not right,
// although its texts are there.
func checkNoList(t *testing.T, l []string) {
	t.Helper()
	checkNoTrie(t, l)
	whole := strings.Join(l, "")
	for _, text := range []string{"", "a", "abc", whole[:min(len(whole), impl.MaxText)]} {
		checkOccurs(t, l, text, nil)
	}
}

// cloneTrie shares no memory with t.
func cloneTrie(t []impl.Node) []impl.Node {
	out := slices.Clone(t)
	for i, n := range t {
		out[i].Kids, out[i].Outs = slices.Clone(n.Kids), slices.Clone(n.Outs)
	}
	return out
}

func someTexts(r *rand.Rand, parts string, count int, longest int) []string {
	var l []string
	for range count {
		l = append(l, someText(r, parts, 1+r.IntN(longest)))
	}
	return l
}

func TestTrieOf(t *testing.T) {
	l := []string{"he", "she", "hers", "e"}
	got, ok := impl.TrieOf(l)
	want := []impl.Node{
		{Kids: []int64{1, 3, 8}},
		{Byte: 'h', Kids: []int64{2}},
		{Byte: 'e', Parent: 1, Fail: 8, Kids: []int64{6}, Outs: []int64{0, 3}},
		{Byte: 's', Kids: []int64{4}},
		{Byte: 'h', Parent: 3, Fail: 1, Kids: []int64{5}},
		{Byte: 'e', Parent: 4, Fail: 2, Outs: []int64{0, 1, 3}},
		{Byte: 'r', Parent: 2, Kids: []int64{7}},
		{Byte: 's', Parent: 6, Fail: 3, Outs: []int64{2}},
		{Byte: 'e', Outs: []int64{3}},
	}
	if !ok || !sameTrie(got, want) {
		t.Errorf("TrieOf(%q) = %+v, %v", l, got, ok)
	}
	for _, l := range [][]string{
		nil, {}, {"a"}, {"a", "a"}, {"a", "b", "a"}, // no text, the same one twice
		{"abc", "bc", "c"}, {"c", "bc", "abc"}, {"bc", "abc", "c"}, // ends of others
		{"a", "ab", "abc"}, {"abc", "ab", "a"}, // beginnings of others
		{"abcd", "bc", "b"}, {"b", "abcd", "bc"}, // inner parts of others
		{"aaaa", "aa", "a", "aaa", "aa"}, {"abab", "ab", "ba", "bab"}, {"abcabd", "abd", "cab", "bd"},
		{"A", "a", "aA"}, {"\x00", "\xff", "\x00\xff", "\xff\x00"}, {"\x00\x00", "\x00"},
	} {
		checkTrie(t, l)
	}
}

func TestTrieOfEachFewTexts(t *testing.T) {
	texts := textsOf("ab", 3)[1:]
	for _, a := range texts {
		checkTrie(t, []string{a})
		for _, b := range texts {
			checkTrie(t, []string{a, b})
			for _, c := range texts {
				checkTrie(t, []string{a, b, c})
			}
		}
	}
}

func TestTrieOfSomeTexts(t *testing.T) {
	r := rand.New(rand.NewPCG(7, 1))
	for range 60 {
		checkTrie(t, someTexts(r, "ab", r.IntN(41), 6))
		checkTrie(t, someTexts(r, "aab", r.IntN(20), 20))
		checkTrie(t, someTexts(r, allBytes(), r.IntN(41), 3))
	}
}

// textsWithNodes gives texts whose trie has so many nodes: texts of MaxPat
// bytes that begin with bytes of their own, and a shorter one.
func textsWithNodes(nodes int) []string {
	var l []string
	for left := nodes - 1; left > 0; left -= 20 {
		l = append(l, string(rune('A'+len(l)))+strings.Repeat("z", min(left, 20)-1))
	}
	return l
}

func TestTrieOfAtItsLimits(t *testing.T) {
	full := strings.Repeat("a", impl.MaxPat)
	checkTrie(t, []string{full})
	checkTrie(t, []string{full, full[1:], "b" + full[1:]})
	for _, l := range [][]string{{full + "a"}, {"a", full + "a"}, {full + "a", "a"}, {strings.Repeat("b", 300)}, {""}, {"a", ""}, {"", "a"}, {"a", "", "b"}} {
		checkNoList(t, l)
	}
	many := slices.Repeat([]string{"ab"}, impl.MaxPieces)
	checkTrie(t, many)
	checkNoList(t, append(many, "ab"))
	checkNoList(t, slices.Repeat([]string{"a"}, 500))
	for nodes := impl.MaxNodes - 25; nodes <= impl.MaxNodes; nodes++ {
		l := textsWithNodes(nodes)
		if len(wantTrie(l)) != nodes {
			t.Fatal(nodes)
		}
		checkTrie(t, l)
	}
	for _, nodes := range []int{impl.MaxNodes + 1, impl.MaxNodes + 2, 500, 801} {
		checkNoTrie(t, textsWithNodes(nodes))
	}
	most := textsWithNodes(impl.MaxNodes)
	checkTrie(t, append(most, most[0], most[3][:7]))
	checkNoTrie(t, append(most, "."))
}

// changedTries gives tries that differ from t in one number or list.
func changedTries(t []impl.Node) [][]impl.Node {
	var out [][]impl.Node
	change := func(at int, how func(n *impl.Node)) {
		other := cloneTrie(t)
		how(&other[at])
		if !sameTrie(t, other) {
			out = append(out, other)
		}
	}
	numbers := []int64{math.MinInt64, -256, -2, -1, 'a', 'b', 255, 256, 399, 400, 1 << 32, math.MaxInt64}
	for at := range t {
		numbers = append(numbers, int64(at), int64(at+1))
	}
	for at, n := range t {
		for _, x := range numbers {
			change(at, func(n *impl.Node) { n.Byte = x })
			change(at, func(n *impl.Node) { n.Parent = x })
			change(at, func(n *impl.Node) { n.Fail = x })
			change(at, func(n *impl.Node) { n.Kids = append(n.Kids, x) })
			change(at, func(n *impl.Node) { n.Outs = append(n.Outs, x) })
			change(at, func(n *impl.Node) { n.Kids = append([]int64{x}, n.Kids...) })
			change(at, func(n *impl.Node) { n.Outs = append([]int64{x}, n.Outs...) })
			if len(n.Kids) > 0 {
				change(at, func(n *impl.Node) { n.Kids[0] = x })
			}
			if len(n.Outs) > 0 {
				change(at, func(n *impl.Node) { n.Outs[0] = x })
			}
		}
		change(at, func(n *impl.Node) { n.Kids = nil })
		change(at, func(n *impl.Node) { n.Outs = nil })
		change(at, func(n *impl.Node) { slices.Reverse(n.Kids) })
		change(at, func(n *impl.Node) { slices.Reverse(n.Outs) })
	}
	return out
}

func TestTrieOkOfEachChangedTrie(t *testing.T) {
	for _, l := range [][]string{nil, {"a"}, {"he", "she", "hers", "e"}, {"ab", "b", "ab"}, {"aab", "ab", "a"}} {
		right := wantTrie(l)
		if !impl.TrieOk(l, right) {
			t.Errorf("TrieOk of TrieOf(%q) is false", l)
		}
		for _, other := range changedTries(right) {
			if impl.TrieOk(l, other) {
				t.Errorf("TrieOk(%q, %+v) is true", l, other)
			}
		}
		for _, other := range [][]impl.Node{nil, right[:len(right)-1], append(cloneTrie(right), impl.Node{}), append(cloneTrie(right), right...)} {
			if impl.TrieOk(l, other) {
				t.Errorf("TrieOk(%q, %+v) is true", l, other)
			}
		}
		for i := range right { // an empty list and nil are the same
			if len(right[i].Kids) == 0 {
				right[i].Kids = []int64{}
			}
			if len(right[i].Outs) == 0 {
				right[i].Outs = []int64{}
			}
		}
		if !impl.TrieOk(l, right) {
			t.Errorf("TrieOk of TrieOf(%q) is false", l)
		}
	}
	if impl.TrieOk([]string{"b", "a"}, wantTrie([]string{"a", "b"})) || impl.TrieOk([]string{"ab"}, wantTrie([]string{"ab", "ab"})) {
		t.Error("the trie of other texts is right")
	}
}

// checkStepped steps a trie through a text: behind each byte it has come to the
// longest end of what was read that has a node, and tells the texts that end.
func checkStepped(t *testing.T, l []string, text string) {
	t.Helper()
	nodes, _ := impl.TrieOf(l)
	all := beginningsOf(l)
	at := int64(0)
	for end := 1; end <= len(text); end++ {
		at = impl.TrieStep(nodes, at, int64(text[end-1]))
		want := slices.IndexFunc(all, func(s string) bool { return s == text[:end] })
		for from := 1; want < 0; from++ {
			want = slices.Index(all, text[from:end])
		}
		if at != int64(want) {
			t.Fatalf("in the trie of %q, %q leads to %d, want %d", l, text[:end], at, want)
		}
		var ended []int64
		for place, x := range l {
			if strings.HasSuffix(text[:end], x) {
				ended = append(ended, int64(place))
			}
		}
		if hits := impl.TrieHits(nodes, at); !slices.Equal(hits, ended) {
			t.Fatalf("in the trie of %q, behind %q, %d end, want %d", l, text[:end], hits, ended)
		}
	}
}

func TestTrieStep(t *testing.T) {
	nodes := wantTrie([]string{"he", "she", "hers", "e"})
	for _, c := range []struct{ at, b, want int64 }{
		{0, 'h', 1}, {0, 's', 3}, {0, 'e', 8}, {0, 'r', 0}, {0, 'H', 0}, {0, 0, 0}, {0, 255, 0},
		{1, 'e', 2}, {1, 'h', 1}, {1, 's', 3}, {1, 'x', 0},
		{5, 'r', 6}, {5, 'h', 1}, {5, 'e', 8}, {5, 's', 3}, {5, 'x', 0},
		{7, 'h', 4}, {7, 's', 3}, {8, 'e', 8}, {8, 'r', 0},
		{9, 'h', -1}, {10, 'h', -1}, {-1, 'h', -1}, {400, 'h', -1}, {1 << 32, 'h', -1}, {math.MaxInt64, 'h', -1}, {math.MinInt64, 'h', -1},
	} {
		if got := impl.TrieStep(nodes, c.at, c.b); got != c.want {
			t.Errorf("TrieStep(%d, %d) = %d, want %d", c.at, c.b, got, c.want)
		}
	}
	for _, b := range notBytes() {
		if got := impl.TrieStep(nodes, 0, b); got != -1 {
			t.Errorf("TrieStep behind %d, which is no byte, = %d", b, got)
		}
	}
	for at, want := range map[int64]int64{-1: -1, 0: 0, 1: -1} {
		if got := impl.TrieStep(nil, at, 'a'); got != -1 {
			t.Errorf("TrieStep in no nodes at %d = %d", at, got)
		}
		if got := impl.TrieStep([]impl.Node{{}}, at, 'a'); got != want {
			t.Errorf("TrieStep in one node at %d = %d, want %d", at, got, want)
		}
	}
}

func TestTriesThroughWholeTexts(t *testing.T) {
	for _, l := range [][]string{nil, {"he", "she", "hers", "e"}, {"a", "aa", "aaa"}, {"abcd", "bc", "c", "bc"}, {allBytes()[:20], allBytes()[236:]}, {"\x00", "\xff"}} {
		for _, text := range []string{"", "ushershe", "aaaaa", "abcabcdbcd", allBytes(), "\xff\x00\x00\xff"} {
			checkStepped(t, l, text)
		}
	}
	texts := textsOf("ab", 3)[1:]
	for _, a := range texts {
		for _, b := range texts {
			checkStepped(t, []string{a, b}, "abaababbabbbaaab")
		}
	}
	r := rand.New(rand.NewPCG(7, 2))
	for range 40 {
		l := someTexts(r, "abc", r.IntN(40), 6)
		checkStepped(t, l, someText(r, "abcd", 60)+strings.Join(l, ""))
	}
	checkStepped(t, textsWithNodes(impl.MaxNodes), "Azzz"+strings.Join(textsWithNodes(impl.MaxNodes)[5:8], "z"))
}

func wantDepth(t []impl.Node, at int64) int {
	if at == 0 {
		return 0
	}
	return 1 + wantDepth(t, t[at].Parent)
}

// wantSteps tells whether one may step in t, condition by condition.
func wantSteps(t []impl.Node) bool {
	if len(t) < 1 || len(t) > 400 || t[0].Fail != 0 {
		return false
	}
	kids := map[int64][]int64{}
	for at := int64(1); at < int64(len(t)); at++ {
		n := t[at]
		if n.Parent < 0 || n.Parent >= at || n.Byte < 0 || n.Byte > 255 || n.Fail < 0 || n.Fail >= int64(len(t)) {
			return false
		}
		kids[n.Parent] = append(kids[n.Parent], at)
	}
	for at, n := range t {
		if !slices.Equal(n.Kids, kids[int64(at)]) || at > 0 && wantDepth(t, n.Fail) >= wantDepth(t, int64(at)) {
			return false
		}
	}
	return true
}

func wantStep(t []impl.Node, at int64, b int64) int64 {
	for _, kid := range t[at].Kids {
		if t[kid].Byte == b {
			return kid
		}
	}
	if at == 0 {
		return 0
	}
	return wantStep(t, t[at].Fail, b)
}

// checkSteps compares each step from each node, -1 where nodes are not right.
func checkSteps(t *testing.T, nodes []impl.Node, right bool) {
	t.Helper()
	for at := range int64(len(nodes)) {
		for _, b := range []int64{'a', 'b', 'h', 'e', 0, 255} {
			want := int64(-1)
			if right {
				want = wantStep(nodes, at, b)
			}
			if got := impl.TrieStep(nodes, at, b); got != want {
				t.Fatalf("TrieStep(%+v, %d, %d) = %d, want %d", nodes, at, b, got, want)
			}
		}
	}
}

func TestTrieStepOfEachChangedTrie(t *testing.T) {
	right, wrong := 0, 0
	for _, l := range [][]string{nil, {"a"}, {"he", "she", "hers", "e"}, {"ab", "b", "ab"}, {"aab", "ab", "a"}} {
		for _, nodes := range changedTries(wantTrie(l)) {
			ok := wantSteps(nodes)
			checkSteps(t, nodes, ok)
			if ok {
				right++
			} else {
				wrong++
			}
		}
	}
	if right < 500 || wrong < 500 {
		t.Errorf("%d were right, %d wrong", right, wrong)
	}
}

func TestTrieStepOfWhatIsNotRight(t *testing.T) {
	for name, nodes := range map[string][]impl.Node{
		"a Parent that is the node itself":  {{Kids: []int64{2}}, {Byte: 'a', Parent: 1, Kids: []int64{1}}, {Byte: 'b'}},
		"a Parent that stands behind":       {{Kids: []int64{2}}, {Byte: 'a', Parent: 2}, {Byte: 'b', Kids: []int64{1}}},
		"a Parent below 0":                  {{}, {Byte: 'a', Parent: -1}},
		"a Parent beyond all":               {{}, {Byte: 'a', Parent: 2}},
		"a kid left out":                    {{Kids: []int64{1}}, {Byte: 'a'}, {Byte: 'b'}},
		"a kid of another":                  {{Kids: []int64{1, 2}}, {Byte: 'a'}, {Byte: 'b', Parent: 1}},
		"a kid of both":                     {{Kids: []int64{1, 2}}, {Byte: 'a', Kids: []int64{2}}, {Byte: 'b', Parent: 1}},
		"a kid twice":                       {{Kids: []int64{1, 1}}, {Byte: 'a'}},
		"kids that fall":                    {{Kids: []int64{2, 1}}, {Byte: 'a'}, {Byte: 'b'}},
		"the first node as its own kid":     {{Kids: []int64{0, 1}}, {Byte: 'a'}},
		"the first node as another's kid":   {{Kids: []int64{1}, Parent: 1}, {Byte: 'a', Kids: []int64{0}}},
		"a kid beyond all":                  {{Kids: []int64{1, 2}}, {Byte: 'a'}},
		"a Fail that is as deep":            {{Kids: []int64{1, 2}}, {Byte: 'a', Fail: 2}, {Byte: 'b'}},
		"a Fail that is the node itself":    {{Kids: []int64{1}}, {Byte: 'a', Fail: 1}},
		"a Fail that is deeper":             {{Kids: []int64{1}}, {Byte: 'a', Fail: 2, Kids: []int64{2}}, {Byte: 'b', Parent: 1}},
		"a Fail below 0":                    {{Kids: []int64{1}}, {Byte: 'a', Fail: -1}},
		"a Fail beyond all":                 {{Kids: []int64{1}}, {Byte: 'a', Fail: 2}},
		"a Byte below 0":                    {{Kids: []int64{1}}, {Byte: -1}},
		"a Byte above 255":                  {{Kids: []int64{1}}, {Byte: 256}},
		"a first node with a Fail":          {{Kids: []int64{1}, Fail: 1}, {Byte: 'a'}},
		"a first node with a Fail below 0":  {{Fail: -1}},
		"a first node alone with a Fail":    {{Fail: 1}},
		"what is wrong far from the step":   {{Kids: []int64{1, 2}}, {Byte: 'a'}, {Byte: 'b', Kids: []int64{3}}, {Byte: 300, Parent: 2}},
		"a first node that leaves out kids": {{}, {Byte: 'a'}},
	} {
		if wantSteps(nodes) {
			t.Errorf("%s is right", name)
		}
		checkSteps(t, nodes, false)
	}
}

func TestTrieStepOfTriesThatAreOfNoList(t *testing.T) {
	for name, nodes := range map[string][]impl.Node{
		"two kids with the same byte":      {{Kids: []int64{1, 2}}, {Byte: 'a'}, {Byte: 'a', Kids: []int64{3}}, {Byte: 'b', Parent: 2}},
		"two more of them, deeper":         {{Kids: []int64{1}}, {Byte: 'a', Kids: []int64{2, 3, 4}}, {Byte: 'b', Parent: 1}, {Byte: 'a', Parent: 1, Fail: 1}, {Byte: 'a', Parent: 1}},
		"a first node with a Byte":         {{Byte: 'a', Kids: []int64{1}}, {Byte: 'b'}},
		"a first node with a wrong Byte":   {{Byte: 256}},
		"a first node with a Parent":       {{Parent: 7, Kids: []int64{1}}, {Byte: 'a'}},
		"a first node with a kid's Parent": {{Parent: -1, Outs: []int64{3}}},
		"Outs that are none's":             {{Kids: []int64{1}, Outs: []int64{-1}}, {Byte: 'a', Outs: []int64{9, 9}}},
		"a Fail that is no end":            {{Kids: []int64{1, 3}}, {Byte: 'a', Kids: []int64{2}}, {Byte: 'b', Parent: 1, Fail: 1}, {Byte: 'b', Kids: []int64{4}}, {Byte: 'h', Parent: 3, Fail: 3}},
		"a Fail that stands behind":        {{Kids: []int64{1, 3}}, {Byte: 'a', Kids: []int64{2}}, {Byte: 'h', Parent: 1, Fail: 3}, {Byte: 'e', Kids: []int64{4}}, {Byte: 'b', Parent: 3}},
		"a Fail that is not the longest":   {{Kids: []int64{1, 2}}, {Byte: 'b'}, {Byte: 'a', Kids: []int64{3}}, {Byte: 'b', Parent: 2}},
		"nodes level by level":             {{Kids: []int64{1, 2}}, {Byte: 'b', Kids: []int64{3}}, {Byte: 'a', Kids: []int64{4}}, {Byte: 'a', Parent: 1, Fail: 2}, {Byte: 'b', Parent: 2, Fail: 1}},
	} {
		if !wantSteps(nodes) {
			t.Errorf("%s is not right", name)
		}
		checkSteps(t, nodes, true)
	}
}

// TestTrieStepOfManyNodes steps in a row of nodes, and in nodes that all stand
// under the first one.
func TestTrieStepOfManyNodes(t *testing.T) {
	for _, count := range []int64{2, 399, 400, 401, 402, 1000} {
		row, fan := []impl.Node{{}}, []impl.Node{{}}
		for at := int64(1); at < count; at++ {
			row[at-1].Kids = []int64{at}
			row = append(row, impl.Node{Byte: 'a', Parent: at - 1, Fail: at - 1})
			fan[0].Kids = append(fan[0].Kids, at)
			fan = append(fan, impl.Node{Byte: at % 256})
		}
		wantA, wantB, wantTop, wantKid := count-1, int64(0), int64(1), int64(1)
		if count > 400 {
			wantA, wantB, wantTop, wantKid = -1, -1, -1, -1
		}
		if a, b := impl.TrieStep(row, count-2, 'a'), impl.TrieStep(row, count-1, 'b'); a != wantA || b != wantB {
			t.Errorf("in a row of %d nodes a leads to %d, b to %d", count, a, b)
		}
		if top, kid := impl.TrieStep(fan, 0, 1), impl.TrieStep(fan, count-1, 1); top != wantTop || kid != wantKid {
			t.Errorf("in a fan of %d nodes one comes to %d and %d", count, top, kid)
		}
	}
}

func TestTrieHits(t *testing.T) {
	nodes := wantTrie([]string{"he", "she", "hers", "e"})
	for at, want := range [][]int64{nil, nil, {0, 3}, nil, nil, {0, 1, 3}, nil, {2}, {3}} {
		if got := impl.TrieHits(nodes, int64(at)); !slices.Equal(got, want) {
			t.Errorf("TrieHits at %d = %d, want %d", at, got, want)
		}
	}
	for _, at := range []int64{-1, -2, 9, 10, 1 << 32, math.MaxInt64, math.MinInt64} {
		if got := impl.TrieHits(nodes, at); len(got) != 0 {
			t.Errorf("TrieHits at %d = %d", at, got)
		}
	}
	if got := impl.TrieHits(nil, 0); len(got) != 0 {
		t.Errorf("TrieHits of no nodes = %d", got)
	}
	// no more is asked than that there is the node
	if got := impl.TrieHits([]impl.Node{{Fail: 7, Outs: []int64{5, -1, 5}}}, 0); !slices.Equal(got, []int64{5, -1, 5}) {
		t.Errorf("TrieHits of a node that is not right = %d", got)
	}
}

func wantOccurs(l []string, text string) []impl.End {
	var ends []impl.End
	for end := range len(text) + 1 {
		for place, x := range l {
			if strings.HasSuffix(text[:end], x) {
				ends = append(ends, impl.End{At: int64(end), Dist: int64(place)})
			}
		}
	}
	return ends
}

func checkOccurs(t *testing.T, l []string, text string, want []impl.End) {
	t.Helper()
	if got := impl.Occurs(l, text); !slices.Equal(got, want) {
		t.Errorf("Occurs(%q, %q) = %+v, want %+v", l, text, got, want)
	}
}

func TestOccurs(t *testing.T) {
	checkOccurs(t, []string{"he", "she", "hers", "e"}, "ushers", []impl.End{{At: 4, Dist: 0}, {At: 4, Dist: 1}, {At: 4, Dist: 3}, {At: 6, Dist: 2}})
	checkOccurs(t, []string{"e", "she", "he"}, "she", []impl.End{{At: 3, Dist: 0}, {At: 3, Dist: 1}, {At: 3, Dist: 2}})
	checkOccurs(t, []string{"a", "a"}, "ba", []impl.End{{At: 2, Dist: 0}, {At: 2, Dist: 1}})
	checkOccurs(t, []string{"aa"}, "aaaa", []impl.End{{At: 2}, {At: 3}, {At: 4}})
	checkOccurs(t, []string{"a"}, "A", nil)
	checkOccurs(t, []string{"\x00", "\xff"}, "\xff\x00", []impl.End{{At: 1, Dist: 1}, {At: 2, Dist: 0}})
	checkOccurs(t, []string{"abcd"}, "abc", nil)
	checkOccurs(t, []string{"a"}, "", nil)
	checkOccurs(t, nil, "", nil)
	checkOccurs(t, nil, "abc", nil)
}

func TestOccursOfEachShortText(t *testing.T) {
	parts := textsOf("ab", 3)[1:]
	for _, text := range textsOf("abc", 5) {
		for i, a := range parts {
			l := []string{a, parts[(i+5)%14], parts[(i*3+1)%14]}
			checkOccurs(t, l, text, wantOccurs(l, text))
		}
	}
}

func TestOccursOfSomeTexts(t *testing.T) {
	r := rand.New(rand.NewPCG(7, 3))
	for range 100 {
		l := someTexts(r, "ab", r.IntN(41), 7)
		text := someText(r, "abc", r.IntN(201))
		checkOccurs(t, l, text, wantOccurs(l, text))
	}
	most := strings.Repeat("ab", impl.MaxText/2)
	l := []string{"b", "ab", "bab", most[:20]}
	checkOccurs(t, l, most, wantOccurs(l, most))
	for _, text := range []string{most + "a", strings.Repeat("b", 256), strings.Repeat("b", 456)} {
		checkOccurs(t, l, text, nil)
		checkOccurs(t, nil, text, nil)
	}
}

// textsApart gives texts of MaxPat bytes that have no byte in common.
func textsApart(count int) []string {
	var l []string
	for i := range count {
		l = append(l, strings.Repeat(string([]byte{byte('0' + i)}), impl.MaxPat))
	}
	return l
}

// checkOccursAlone looks for the texts in each of them alone, and in texts of
// MaxText bytes that are made up of them.
func checkOccursAlone(t *testing.T, l []string) {
	t.Helper()
	for i, x := range l {
		around := strings.Repeat(strings.Join(slices.Concat(l[i:], l[:i]), ""), 1+impl.MaxText/len(x))
		for _, text := range []string{x, x[1:], x + x, around[:impl.MaxText], around[3 : impl.MaxText+3]} {
			checkOccurs(t, l, text, wantOccurs(l, text))
		}
		checkOccurs(t, l, around[:impl.MaxText+1], nil)
	}
}

// TestOccursOfManyNodes: how many nodes there would be is told by TrieOf alone.
func TestOccursOfManyNodes(t *testing.T) {
	for _, nodes := range []int{impl.MaxNodes - 1, impl.MaxNodes, impl.MaxNodes + 1, impl.MaxNodes + 2, 500, 801} {
		l := textsWithNodes(nodes)
		if _, ok := impl.TrieOf(l); ok != (nodes <= impl.MaxNodes) || len(beginningsOf(l)) != nodes {
			t.Errorf("TrieOf of texts with %d nodes: %v", nodes, ok)
		}
		checkOccursAlone(t, l)
	}
	apart := textsApart(impl.MaxPieces)
	checkNoTrie(t, apart)
	checkOccursAlone(t, apart)
	checkOccurs(t, apart, apart[3], []impl.End{{At: 20, Dist: 3}})
	checkOccurs(t, apart, apart[39]+apart[0], []impl.End{{At: 20, Dist: 39}, {At: 40, Dist: 0}})
}

// TestOccursOfManyNodesWithEndsOfOthers: texts that are ends of others, also of
// such as stand behind them, and that are there twice.
func TestOccursOfManyNodesWithEndsOfOthers(t *testing.T) {
	apart := textsApart(30)
	crossed := apart[28][:10] + apart[29][:10]
	for _, l := range [][]string{
		slices.Concat(apart, []string{apart[0][:1], apart[0], apart[7][:19], apart[7][:2], apart[29]}),
		slices.Concat([]string{apart[0][:1], apart[7][:2], apart[7]}, apart),
		slices.Concat([]string{crossed[5:]}, apart, []string{crossed, crossed[9:], crossed, crossed[10:]}),
		slices.Concat(apart[:20], apart[:20]), // 401 nodes, each text twice
	} {
		checkNoTrie(t, l)
		checkOccursAlone(t, l)
	}
	r := rand.New(rand.NewPCG(7, 4))
	for range 20 {
		l := someTexts(r, allBytes(), 25, 1)
		for i := range l {
			l[i] += someText(r, "ab", 19)
		}
		for range 15 {
			of := l[r.IntN(25)]
			l = append(l, of[r.IntN(20):])
		}
		checkOccursAlone(t, l)
	}
}

// TestOccursOfManyNodesThatAreNotRight: too many texts, and ones that are too
// long or empty, have no ends whatever else is there.
func TestOccursOfManyNodesThatAreNotRight(t *testing.T) {
	apart := textsApart(impl.MaxPieces)
	checkNoList(t, textsApart(impl.MaxPieces+1))
	checkNoList(t, append(slices.Clone(apart), apart[0]))
	for _, at := range []int{0, 20, 39} {
		for _, wrong := range []string{"", apart[at] + "z"} {
			l := slices.Clone(apart)
			l[at] = wrong
			checkNoList(t, l)
			checkOccurs(t, l, apart[3], nil)
		}
	}
}

// spoil writes a list full, with the room behind it.
func spoil(l []int64) {
	l = l[:cap(l)]
	for i := range l {
		l[i] = 99
	}
}

func TestTrieListsShareNoMemory(t *testing.T) {
	l := []string{"he", "she", "hers", "e", "she", "rs", "s"}
	again, _ := impl.TrieOf(l)
	for at := range again {
		for _, kids := range []bool{true, false} {
			nodes, _ := impl.TrieOf(l)
			want := wantTrie(l)
			if kids {
				spoil(nodes[at].Kids)
				nodes[at].Kids = want[at].Kids
			} else {
				spoil(nodes[at].Outs)
				nodes[at].Outs = want[at].Outs
			}
			if !sameTrie(nodes, want) || !impl.TrieOk(l, again) {
				t.Errorf("a list of node %d shares its memory", at)
			}
		}
	}
}

func TestTriesAreOnlyRead(t *testing.T) {
	l := []string{"he", "she", "hers", "e"}
	held := append(slices.Clone(l), "behind", "behind")[:4]
	want := wantTrie(l)
	nodes := cloneTrie(want)
	for i := range nodes {
		nodes[i].Kids, nodes[i].Outs = roomBehind(nodes[i].Kids), roomBehind(nodes[i].Outs)
	}
	nodes = append(nodes, impl.Node{Byte: 77})[:len(want)]
	for range 2 {
		impl.TrieOf(held)
		impl.Occurs(held, "ushers")
		impl.TrieOk(held, nodes)
		for at := range int64(len(nodes)) {
			impl.TrieStep(nodes, at, 'h')
			spoil(impl.TrieHits(nodes, at))
		}
	}
	if !slices.Equal(held[:6], []string{"he", "she", "hers", "e", "behind", "behind"}) {
		t.Errorf("the texts have become %q", held[:6])
	}
	if !sameTrie(nodes, want) || nodes[:len(want)+1][len(want)].Byte != 77 {
		t.Errorf("the nodes have become %+v", nodes)
	}
	for i, n := range nodes {
		checkKept(t, n.Kids, want[i].Kids)
		checkKept(t, n.Outs, want[i].Outs)
	}
	apart := append(textsApart(impl.MaxPieces), "behind")[:impl.MaxPieces]
	impl.Occurs(apart, apart[3])
	if !slices.Equal(apart[:impl.MaxPieces+1], append(textsApart(impl.MaxPieces), "behind")) {
		t.Errorf("the texts have become %q", apart)
	}
	first, again := impl.Occurs(held, "ushers"), impl.Occurs(held, "ushers")
	clear(first)
	if !slices.Equal(again, wantOccurs(l, "ushers")) {
		t.Error("two lists of ends share their memory")
	}
}
