package tests

import (
	"math"
	"math/rand/v2"
	"slices"
	"strings"
	"testing"
	"unsafe"

	"loop.example/g00568/impl"
)

func wantFolded(s string) string {
	out := []byte(s)
	for i, b := range out {
		out[i] = byte(wantFold(int64(b)))
	}
	return string(out)
}

// wantPlan says a plan with the texts of all patterns alone.
func wantPlan(d []impl.Pattern) impl.Plan {
	plan := impl.Plan{Dict: slices.Clone(d)}
	var texts []string
	for owner, p := range d {
		length, count := len(p.Text), int(p.K)+1
		if length < count {
			plan.Direct = append(plan.Direct, int64(owner))
			continue
		}
		for i := range count {
			from, to := i*length/count, (i+1)*length/count
			text := wantFolded(p.Text[from:to])
			plan.Parts = append(plan.Parts, impl.Part{Owner: int64(owner), At: int64(from), Text: text})
			texts = append(texts, text)
		}
	}
	plan.Nodes = wantTrie(texts)
	return plan
}

func samePlan(a impl.Plan, b impl.Plan) bool {
	return slices.Equal(a.Dict, b.Dict) && slices.Equal(a.Parts, b.Parts) && sameTrie(a.Nodes, b.Nodes) && slices.Equal(a.Direct, b.Direct)
}

// clonePlan shares no memory with p.
func clonePlan(p impl.Plan) impl.Plan {
	return impl.Plan{Dict: slices.Clone(p.Dict), Parts: slices.Clone(p.Parts), Nodes: cloneTrie(p.Nodes), Direct: slices.Clone(p.Direct)}
}

func checkPlan(t *testing.T, d []impl.Pattern) {
	t.Helper()
	got, ok := impl.PlanOf(d)
	if want := wantPlan(d); !ok || !samePlan(got, want) {
		t.Fatalf("PlanOf(%+v) = %+v, %v, want %+v", d, got, ok, want)
	}
	if !impl.PlanOk(got) {
		t.Fatalf("PlanOk of PlanOf(%+v) is false", d)
	}
}

// checkNoPlan looks that a dictionary that is not right has no plan, and that
// nothing is found of it.
func checkNoPlan(t *testing.T, d []impl.Pattern) {
	t.Helper()
	got, ok := impl.PlanOf(d)
	if ok || got.Dict != nil || got.Parts != nil || got.Nodes != nil || got.Direct != nil {
		t.Errorf("PlanOf(%+v) = %+v, %v", d, got, ok)
	}
	for _, text := range []string{"", "a", "p0p1abc", strings.Repeat("a", impl.MaxText)} {
		if recs := impl.ScanAll(d, text); len(recs) != 0 {
			t.Errorf("ScanAll(%+v, %q) = %+v", d, text, recs)
		}
	}
	for _, p := range []impl.Plan{{Dict: d}, {Dict: d, Nodes: []impl.Node{{}}}, {Dict: d, Nodes: []impl.Node{{}}, Direct: []int64{0}}} {
		checkWrongPlan(t, p)
	}
}

func checkWrongPlan(t *testing.T, p impl.Plan) {
	t.Helper()
	if impl.PlanOk(p) {
		t.Errorf("PlanOk(%+v) is true", p)
	}
	for _, text := range []string{"", "ab", "p0p1abcd"} {
		if recs := impl.ScanPlan(p, text); len(recs) != 0 {
			t.Errorf("ScanPlan(%+v, %q) = %+v", p, text, recs)
		}
	}
}

// wantRecs asks each pattern by itself at each end.
func wantRecs(d []impl.Pattern, text string) []impl.Rec {
	var ends [][]impl.End
	for _, p := range d {
		ends = append(ends, impl.EndsOf(p, text))
	}
	var recs []impl.Rec
	for at := range int64(len(text) + 1) {
		for pattern, l := range ends {
			for _, e := range l {
				if e.At == at {
					recs = append(recs, impl.Rec{Pattern: int64(pattern), End: at, Dist: e.Dist})
				}
			}
		}
	}
	return recs
}

func checkScans(t *testing.T, d []impl.Pattern, text string, want []impl.Rec) {
	t.Helper()
	if got := impl.ScanAll(d, text); !slices.Equal(got, want) {
		t.Fatalf("ScanAll(%+v, %q) = %+v, want %+v", d, text, got, want)
	}
	plan, ok := impl.PlanOf(d)
	if got := impl.ScanPlan(plan, text); !ok || !slices.Equal(got, want) {
		t.Fatalf("ScanPlan of the plan of %+v in %q = %+v, want %+v", d, text, got, want)
	}
	checkReach(t, plan, text, want)
}

// checkReach looks that each record's pattern has a part that stands in the
// text such that the pattern may end there, unless it may be left out whole.
func checkReach(t *testing.T, plan impl.Plan, text string, recs []impl.Rec) {
	t.Helper()
	var texts []string
	for _, part := range plan.Parts {
		texts = append(texts, part.Text)
	}
	found := impl.Occurs(texts, impl.Folded(text))
	for _, rec := range recs {
		near := slices.Contains(plan.Direct, rec.Pattern)
		for _, e := range found {
			part := plan.Parts[e.Dist]
			if part.Owner == rec.Pattern {
				w := impl.WindowOf(plan.Dict[part.Owner], impl.Piece{At: part.At, Text: part.Text}, e.At)
				near = near || w.From < rec.End && rec.End <= w.To
			}
		}
		if !near {
			t.Errorf("%+v in %q has no part of %+v in reach", rec, text, plan.Dict[rec.Pattern])
		}
	}
}

// edgeDicts are right dictionaries, each at some limit.
func edgeDicts() [][]impl.Pattern {
	all := allBytes()
	var longest []impl.Pattern
	for i := range 8 {
		longest = append(longest, impl.Pattern{Text: all[32*i : 32*i+20], K: 4, Fold: i%2 == 0})
	}
	full := strings.Repeat("a", 20)
	return [][]impl.Pattern{
		nil, {}, {{Text: "a"}}, {{Text: "a", K: 1}}, {{Text: "A", Fold: true}},
		manyPatterns(8), longest, longest[:1],
		slices.Repeat([]impl.Pattern{{Text: full, K: 4}}, 8), // the same pattern and the same pieces, again and again
		slices.Repeat([]impl.Pattern{{Text: "ab", K: 2}}, 8), // no parts at all
		{{Text: "abcd", K: 3}, {Text: "abcd", K: 4}, {Text: "abc", K: 2}, {Text: "abc", K: 3}, {Text: "abc", K: 4}, {Text: "a"}, {Text: "a", K: 4, Fold: true}},
		{{Text: "abcde", K: 4}, {Text: "abcde", K: 4, Fold: true}, {Text: "abcde"}},
		{{Text: "aBcD", K: 1}, {Text: "aBcD", K: 1, Fold: true}, {Text: "AbCd", K: 1}, {Text: "ABCD"}, {Text: "abcd", Fold: true}},
		{{Text: "abab", K: 1}, {Text: "baba", K: 1}, {Text: "ab"}, {Text: "AB"}, {Text: "b"}}, // pieces that others have, and ends of others
		{{Text: "ab"}, {Text: "ab"}, {Text: "x", K: 1}, {Text: "ab"}, {Text: "x", K: 1}},
		{{Text: "\x00\xff", K: 1}, {Text: "\xc1\xe1", Fold: true}, {Text: "[{@`", K: 1, Fold: true}, {Text: "\n \\#"}},
	}
}

func TestPlanOf(t *testing.T) {
	d := []impl.Pattern{{Text: "aBcd", K: 1, Fold: true}, {Text: "x", K: 1}, {Text: "CD"}}
	got, ok := impl.PlanOf(d)
	want := impl.Plan{
		Dict:  d,
		Parts: []impl.Part{{Owner: 0, At: 0, Text: "ab"}, {Owner: 0, At: 2, Text: "cd"}, {Owner: 2, At: 0, Text: "cd"}},
		Nodes: []impl.Node{
			{Kids: []int64{1, 3}},
			{Byte: 'a', Kids: []int64{2}},
			{Byte: 'b', Parent: 1, Outs: []int64{0}},
			{Byte: 'c', Kids: []int64{4}},
			{Byte: 'd', Parent: 3, Outs: []int64{1, 2}},
		},
		Direct: []int64{1},
	}
	if !ok || !samePlan(got, want) || !impl.PlanOk(want) {
		t.Errorf("PlanOf(%+v) = %+v, %v", d, got, ok)
	}
	for _, d := range edgeDicts() {
		checkPlan(t, d)
	}
	for n := range 9 {
		checkPlan(t, manyPatterns(n))
	}
	for _, p := range eachPattern() {
		checkPlan(t, []impl.Pattern{p})
		checkPlan(t, []impl.Pattern{{Text: "b", K: 1}, p, p})
	}
}

func TestPlanOfNoPatterns(t *testing.T) {
	for _, d := range [][]impl.Pattern{nil, {}} {
		p, ok := impl.PlanOf(d)
		if !ok || len(p.Dict) != 0 || len(p.Parts) != 0 || len(p.Direct) != 0 || !sameTrie(p.Nodes, []impl.Node{{}}) {
			t.Errorf("PlanOf no patterns = %+v, %v", p, ok)
		}
		for _, text := range []string{"", "abc", strings.Repeat("a", 201)} {
			checkScans(t, d, text, nil)
		}
	}
	checkWrongPlan(t, impl.Plan{}) // the one node is missing
}

// someDict has few bytes, so that pieces are alike and patterns are found.
func someDict(r *rand.Rand) []impl.Pattern {
	var d []impl.Pattern
	for range r.IntN(9) {
		d = append(d, somePattern(r, "abABc", 1+r.IntN(20)))
	}
	if len(d) > 2 && r.IntN(3) == 0 {
		d[len(d)-1] = d[0]
	}
	return d
}

func TestPlanOfSomeDicts(t *testing.T) {
	r := rand.New(rand.NewPCG(9, 1))
	for range 300 {
		checkPlan(t, someDict(r))
	}
}

func TestPlanOfWrongDicts(t *testing.T) {
	for _, wrong := range wrongPatterns() {
		checkNoPlan(t, []impl.Pattern{wrong})
		for at := range 8 {
			d := manyPatterns(8)
			d[at] = wrong
			checkNoPlan(t, d)
		}
	}
	for _, d := range [][]impl.Pattern{manyPatterns(9), manyPatterns(20), slices.Repeat([]impl.Pattern{{Text: "a", K: 1}}, 9), make([]impl.Pattern, 300)} {
		checkNoPlan(t, d)
	}
}

// changedPlans gives plans that differ from p in one field, or in one item more
// or less, or in the order of two.
func changedPlans(p impl.Plan) []impl.Plan {
	var out []impl.Plan
	change := func(how func(p *impl.Plan)) {
		other := clonePlan(p)
		how(&other)
		out = append(out, other)
	}
	numbers := []int64{math.MinInt64, -1, 0, 1, 2, 3, 4, 5, 7, 8, 20, 256, 1 << 32, math.MaxInt64}
	for at := range p.Parts {
		for _, x := range numbers {
			change(func(p *impl.Plan) { p.Parts[at].Owner = x })
			change(func(p *impl.Plan) { p.Parts[at].At = x })
		}
		for _, text := range []string{"", "a", "A", "z", strings.ToUpper(p.Parts[at].Text), p.Parts[at].Text + "a", p.Parts[at].Text[1:]} {
			change(func(p *impl.Plan) { p.Parts[at].Text = text })
		}
		change(func(p *impl.Plan) { p.Parts = slices.Delete(p.Parts, at, at+1) })
		change(func(p *impl.Plan) { p.Parts = slices.Insert(p.Parts, at, p.Parts[at]) })
		change(func(p *impl.Plan) { p.Parts[0], p.Parts[at] = p.Parts[at], p.Parts[0] })
	}
	for at := range p.Direct {
		for _, x := range numbers {
			change(func(p *impl.Plan) { p.Direct[at] = x })
		}
		change(func(p *impl.Plan) { p.Direct = slices.Delete(p.Direct, at, at+1) })
		change(func(p *impl.Plan) { p.Direct = slices.Insert(p.Direct, at, p.Direct[at]) })
		change(func(p *impl.Plan) { p.Direct[0], p.Direct[at] = p.Direct[at], p.Direct[0] })
	}
	for _, x := range numbers {
		change(func(p *impl.Plan) { p.Direct = append(p.Direct, x) })
		change(func(p *impl.Plan) { p.Parts = append(p.Parts, impl.Part{Owner: x, Text: "a"}) })
	}
	for _, nodes := range changedTries(p.Nodes) {
		change(func(p *impl.Plan) { p.Nodes = nodes })
	}
	for at := range p.Nodes {
		change(func(p *impl.Plan) { p.Nodes = slices.Delete(p.Nodes, at, at+1) })
		change(func(p *impl.Plan) { p.Nodes[0], p.Nodes[at] = p.Nodes[at], p.Nodes[0] })
	}
	change(func(p *impl.Plan) { p.Nodes = append(p.Nodes, impl.Node{}) })
	return append(out, changedDicts(p)...)
}

// changedDicts gives plans that differ from p in their dictionary alone. Where
// only the case of letters is another, they are right as well.
func changedDicts(p impl.Plan) []impl.Plan {
	var out []impl.Plan
	change := func(how func(p *impl.Plan)) {
		other := clonePlan(p)
		how(&other)
		out = append(out, other)
	}
	for at, pattern := range p.Dict {
		for k := range int64(7) {
			change(func(p *impl.Plan) { p.Dict[at].K = k - 1 })
		}
		for _, text := range []string{"", "a", strings.ToUpper(pattern.Text), strings.ToLower(pattern.Text), pattern.Text + "a", pattern.Text[1:], "z" + pattern.Text[1:]} {
			change(func(p *impl.Plan) { p.Dict[at].Text = text })
		}
		change(func(p *impl.Plan) { p.Dict[at].Fold = !p.Dict[at].Fold })
		change(func(p *impl.Plan) { p.Dict = slices.Delete(p.Dict, at, at+1) })
		change(func(p *impl.Plan) { p.Dict = slices.Insert(p.Dict, at, p.Dict[at]) })
		change(func(p *impl.Plan) { p.Dict[0], p.Dict[at] = p.Dict[at], p.Dict[0] })
	}
	change(func(p *impl.Plan) { p.Dict = append(p.Dict, impl.Pattern{Text: "a"}) })
	change(func(p *impl.Plan) { p.Dict = append(p.Dict, impl.Pattern{Text: "a", K: 1}) })
	change(func(p *impl.Plan) { p.Dict = append(p.Dict, impl.Pattern{}) })
	return out
}

func TestPlanOkOfEachChangedPlan(t *testing.T) {
	right, wrong := 0, 0
	for _, d := range [][]impl.Pattern{
		nil, {{Text: "ab"}}, {{Text: "x", K: 1}},
		{{Text: "aBcd", K: 1, Fold: true}, {Text: "x", K: 1}, {Text: "cd"}, {Text: "ab", K: 4}},
		{{Text: "ab", K: 1}, {Text: "ab", K: 1}, {Text: "a", K: 1}, {Text: "a", K: 1}},
	} {
		p := wantPlan(d)
		if !impl.PlanOk(p) {
			t.Errorf("PlanOk of the plan of %+v is false", d)
		}
		for _, other := range changedPlans(p) {
			if impl.DictOk(other.Dict) && samePlan(other, wantPlan(other.Dict)) {
				right++
				if !impl.PlanOk(other) {
					t.Errorf("PlanOk(%+v) is false", other)
				}
			} else {
				wrong++
				checkWrongPlan(t, other)
			}
		}
	}
	if right < 20 || wrong < 500 {
		t.Errorf("%d were right, %d wrong", right, wrong)
	}
}

// TestPlanOkOfEmptyLists: an empty list and nil are the same.
func TestPlanOkOfEmptyLists(t *testing.T) {
	for _, d := range [][]impl.Pattern{{}, {{Text: "ab"}}, {{Text: "a", K: 1}}} {
		p := wantPlan(d)
		p.Dict = append([]impl.Pattern{}, p.Dict...)
		p.Parts = append([]impl.Part{}, p.Parts...)
		p.Direct = append([]int64{}, p.Direct...)
		for i := range p.Nodes {
			p.Nodes[i].Kids = append([]int64{}, p.Nodes[i].Kids...)
			p.Nodes[i].Outs = append([]int64{}, p.Nodes[i].Outs...)
		}
		if !impl.PlanOk(p) || !slices.Equal(impl.ScanPlan(p, "xab"), impl.ScanAll(d, "xab")) {
			t.Errorf("PlanOk(%+v) is false", p)
		}
	}
}

func TestScans(t *testing.T) {
	d := []impl.Pattern{{Text: "aBcd", K: 1, Fold: true}, {Text: "x", K: 1}, {Text: "cd"}}
	checkScans(t, d, "ABcd", []impl.Rec{{Pattern: 1, End: 0, Dist: 1}, {Pattern: 1, End: 1, Dist: 1}, {Pattern: 1, End: 2, Dist: 1}, {Pattern: 0, End: 3, Dist: 1}, {Pattern: 1, End: 3, Dist: 1}, {Pattern: 0, End: 4}, {Pattern: 1, End: 4, Dist: 1}, {Pattern: 2, End: 4}})
	checkScans(t, d, "", []impl.Rec{{Pattern: 1, Dist: 1}})
	checkScans(t, d[2:], "CDcd", []impl.Rec{{End: 4}})                                                                                            // found folded, and yet not alike
	checkScans(t, []impl.Pattern{{Text: "CD"}, {Text: "cd"}}, "cdCD", []impl.Rec{{Pattern: 1, End: 2}, {Pattern: 0, End: 4}})                     // by End ahead of Pattern
	checkScans(t, []impl.Pattern{{Text: "b"}, {Text: "ab"}, {Text: "b"}}, "ab", []impl.Rec{{End: 2}, {Pattern: 1, End: 2}, {Pattern: 2, End: 2}}) // in the patterns' order
	checkScans(t, []impl.Pattern{{Text: "abcd", K: 1}}, "aXbcdzzzzzzzzzzzabd", []impl.Rec{{End: 5, Dist: 1}, {End: 19, Dist: 1}})
	checkScans(t, []impl.Pattern{{Text: "ab", K: 1}}, "", nil)
	checkScans(t, []impl.Pattern{{Text: "ab"}}, "zzz", nil)
}

func TestScansOfEachShortText(t *testing.T) {
	texts := textsOf("aAb", 5)
	parts := textsOf("aB", 3)[1:]
	for i, a := range parts {
		d := []impl.Pattern{{Text: a, K: int64(i % 3)}, {Text: parts[(i*3+1)%14], K: 1, Fold: true}, {Text: "ba"}}
		for _, text := range texts {
			checkScans(t, d, text, wantRecs(d, text))
		}
	}
}

// TestScansAgainstEachDistance looks at each piece of the text by itself.
func TestScansAgainstEachDistance(t *testing.T) {
	r := rand.New(rand.NewPCG(9, 2))
	for range 60 {
		d := someDict(r)
		text := someText(r, "abABc", r.IntN(40))
		var want []impl.Rec
		for pattern, p := range d {
			for _, e := range wantEnds(p, text) {
				want = append(want, impl.Rec{Pattern: int64(pattern), End: e.At, Dist: e.Dist})
			}
		}
		slices.SortFunc(want, func(a, b impl.Rec) int { return int((a.End-b.End)*8 + a.Pattern - b.Pattern) })
		checkScans(t, d, text, want)
	}
}

func TestScansOfManyDicts(t *testing.T) {
	r := rand.New(rand.NewPCG(9, 3))
	dicts := edgeDicts()
	for range 200 {
		dicts = append(dicts, someDict(r))
	}
	found := 0
	for _, d := range dicts {
		texts := []string{"", "z", strings.Repeat(".", 200), someText(r, "abABc", 200)}
		for _, p := range d {
			texts = append(texts, textsAround(r, p)...)
		}
		for _, text := range texts {
			text = text[:min(len(text), impl.MaxText)]
			want := wantRecs(d, text)
			checkScans(t, d, text, want)
			found += len(want)
		}
	}
	if found < 20000 {
		t.Errorf("%d were found", found)
	}
}

func TestScansOfLongTexts(t *testing.T) {
	most := strings.Repeat("aB", impl.MaxText/2)
	for _, d := range edgeDicts()[2:] {
		checkScans(t, d, most, wantRecs(d, most))
		checkScans(t, d, most[1:]+allBytes()[:1], wantRecs(d, most[1:]+"\x00"))
		for _, text := range []string{most + "a", most + most, strings.Repeat("ab", 228), strings.Repeat("a", 1<<16)} {
			checkScans(t, d, text, nil)
		}
	}
	d := []impl.Pattern{{Text: "ab", Fold: true}, {Text: "zz", K: 2}}
	recs := impl.ScanAll(d, most)
	if len(recs) != 100+201 || recs[len(recs)-1] != (impl.Rec{Pattern: 1, End: 200, Dist: 2}) || recs[len(recs)-2] != (impl.Rec{Pattern: 0, End: 200}) {
		t.Errorf("%d are found in %d bytes: %+v", len(recs), len(most), recs)
	}
}

// withRoom gives the items with spare room behind them that is written full.
func withRoom[T any](l []T, behind T) []T {
	long := append(slices.Clone(l), slices.Repeat([]T{behind}, 8)...)
	return long[:len(l)]
}

// checkRoom looks whether l is still want, and what withRoom wrote is too.
func checkRoom[T comparable](t *testing.T, l []T, want []T, behind T) {
	t.Helper()
	if !slices.Equal(l, want) || !slices.Equal(l[len(l):len(l)+8], slices.Repeat([]T{behind}, 8)) {
		t.Errorf("%+v has become %+v", want, l[:len(l)+8])
	}
}

// heldPlan gives the plan with spare room behind each list that is written full.
func heldPlan(p impl.Plan) impl.Plan {
	held := impl.Plan{Dict: withRoom(p.Dict, behindDict), Parts: withRoom(p.Parts, behindParts), Direct: roomBehind(p.Direct)}
	held.Nodes = append(cloneTrie(p.Nodes), impl.Node{Byte: 77})[:len(p.Nodes)]
	for i, n := range p.Nodes {
		held.Nodes[i].Kids, held.Nodes[i].Outs = roomBehind(n.Kids), roomBehind(n.Outs)
	}
	return held
}

var (
	behindDict  = impl.Pattern{Text: "behind", K: 1}
	behindParts = impl.Part{Owner: 7, Text: "behind"}
)

func checkHeldPlan(t *testing.T, held impl.Plan, want impl.Plan) {
	t.Helper()
	checkRoom(t, held.Dict, want.Dict, behindDict)
	checkRoom(t, held.Parts, want.Parts, behindParts)
	checkKept(t, held.Direct, want.Direct)
	for i, n := range held.Nodes {
		checkKept(t, n.Kids, want.Nodes[i].Kids)
		checkKept(t, n.Outs, want.Nodes[i].Outs)
	}
	if !samePlan(held, want) || held.Nodes[:len(want.Nodes)+1][len(want.Nodes)].Byte != 77 {
		t.Errorf("the plan has become %+v", held)
	}
}

// spoilPlan writes all lists of the plan full, with the room behind them.
func spoilPlan(p impl.Plan) {
	clear(p.Dict[:cap(p.Dict)])
	clear(p.Parts[:cap(p.Parts)])
	spoil(p.Direct)
	for i := range p.Nodes {
		spoil(p.Nodes[i].Kids)
		spoil(p.Nodes[i].Outs)
	}
	clear(p.Nodes[:cap(p.Nodes)])
}

func TestPlansAreOnlyRead(t *testing.T) {
	for _, d := range edgeDicts() {
		want := wantPlan(d)
		held := heldPlan(want)
		for range 2 {
			impl.PlanOf(held.Dict)
			impl.PlanOk(held)
			clear(impl.ScanAll(held.Dict, "xabAbcdx"))
			clear(impl.ScanPlan(held, "xabAbcdx"))
		}
		checkHeldPlan(t, held, want)
	}
}

func TestPlansAreNewMemory(t *testing.T) {
	from := []byte("aBcdcd")
	d := []impl.Pattern{{Text: unsafe.String(&from[0], 4), K: 1}, {Text: unsafe.String(&from[4], 2)}, {Text: "x", K: 1}}
	want := wantPlan([]impl.Pattern{{Text: "aBcd", K: 1}, {Text: "cd"}, {Text: "x", K: 1}})
	first, _ := impl.PlanOf(d)
	again, _ := impl.PlanOf(d)
	clear(from)
	clear(d)
	if !samePlan(first, want) || !samePlan(again, want) {
		t.Errorf("the plans have become %+v and %+v", first, again)
	}
	spoilPlan(first)
	if !samePlan(again, want) {
		t.Errorf("two plans share their memory: %+v", again)
	}
	recs, more := impl.ScanPlan(again, "abcd"), impl.ScanPlan(again, "abcd")
	clear(recs)
	if !slices.Equal(more, impl.ScanAll(again.Dict, "abcd")) || len(more) == 0 {
		t.Error("two lists of records share their memory")
	}
}
