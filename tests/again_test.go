package tests

import (
	"fmt"
	"slices"
	"strings"
	"testing"

	"loop.example/g00568/impl"
)

// arguments are handed to all functions; each list has spare room behind it that
// is written full.
type arguments struct {
	pattern impl.Pattern
	dict    []impl.Pattern
	texts   []string
	text    string
	b, at   int64
	col     []int64
	myers   impl.Myers
	rows    impl.Rows
	cut     impl.Cut
	nodes   []impl.Node
	piece   impl.Piece
	plan    impl.Plan
	ring    impl.Ring
	session impl.Session
	dfa     impl.Dfa
	tree    []impl.Bk
	found   []impl.Found
}

// eachArguments gives right arguments, and others, of which many are not right.
func eachArguments() []arguments {
	var out []arguments
	for _, p := range []impl.Pattern{{Text: "aBab", K: 1, Fold: true}, {Text: "ab", K: 3}, {Text: "abc"}, {}, {Text: "ab", K: 5}} {
		d := []impl.Pattern{p, {Text: "b"}, {Text: "x", K: 1}}
		a := arguments{pattern: p, dict: d, texts: []string{"ab", "b", "aba"}, text: "xabAbabx", b: 'b', at: 1}
		a.col, a.myers, a.rows, a.cut = impl.FirstCol(p), impl.MyersNew(p), impl.RowsNew(p), impl.CutNew(p)
		a.nodes, _ = impl.TrieOf(a.texts)
		a.piece = impl.Piece{At: 1, Text: "b"}
		a.plan = wantPlan(d)
		a.ring = impl.Ring{Size: 5, End: 9, Data: "abcd"}
		a.session, _ = impl.Open(d, 5, 3)
		a.session, _, _ = impl.Feed(a.session, "ab")
		a.dfa, _ = impl.DfaOf(p)
		a.tree = wantTree(a.texts)
		a.found = foundOf([][3]int64{{3, 6, 5}, {1, 4, 4}, {1, 3, 3}, {6, 8, 2}})
		wrong := a
		wrong.text, wrong.b, wrong.at = strings.Repeat("ab", 101), 256, -1
		wrong.col, wrong.rows.R, wrong.texts = []int64{0, 3}, []int64{1, 1, 1}, []string{"a", ""}
		wrong.ring.End, wrong.session.At, wrong.dfa.Dist = -1, -1, nil
		wrong.tree = []impl.Bk{{Word: "a"}, {Word: "b", Dist: 2}}
		wrong.found = foundOf([][3]int64{{1, 3, 3}, {3, 3, 1}})
		out = append(out, a, wrong)
	}
	return out
}

// heldArguments shares no list with a.
func heldArguments(a arguments) arguments {
	a.dict, a.texts = withRoom(a.dict, behindDict), withRoom(a.texts, "behind")
	a.col, a.rows.R, a.cut.Col = roomBehind(a.col), roomBehind(a.rows.R), roomBehind(a.cut.Col)
	a.nodes = heldPlan(impl.Plan{Nodes: a.nodes}).Nodes
	a.plan, a.session, a.dfa = heldPlan(a.plan), heldSession(a.session), heldDfa(a.dfa)
	a.tree, a.found = withRoom(a.tree, behindTree), withRoom(a.found, behindFound)
	return a
}

func checkArguments(t *testing.T, held arguments, want arguments) {
	t.Helper()
	checkRoom(t, held.dict, want.dict, behindDict)
	checkRoom(t, held.texts, want.texts, "behind")
	checkKept(t, held.col, want.col)
	checkKept(t, held.rows.R, want.rows.R)
	checkKept(t, held.cut.Col, want.cut.Col)
	nodes := heldPlan(impl.Plan{})
	nodes.Nodes = held.nodes
	checkHeldPlan(t, nodes, impl.Plan{Nodes: want.nodes})
	checkHeldPlan(t, held.plan, want.plan)
	checkHeld(t, held.session, want.session)
	checkHeldDfa(t, held.dfa, want.dfa)
	checkRoom(t, held.tree, want.tree, behindTree)
	checkRoom(t, held.found, want.found, behindFound)
}

// scriptOf gives a script with all sorts of lines.
func scriptOf(a arguments) string {
	var lines []string
	for _, p := range a.dict {
		lines = append(lines, "pat "+wantPatternLine(p))
	}
	for _, word := range a.texts {
		lines = append(lines, "word "+wantEscaped(word))
	}
	text := wantEscaped(a.text)
	lines = append(lines, "scan "+text, "near 2 "+wantEscaped(a.pattern.Text), "align "+text+" ab")
	lines = append(lines, "open 4", "feed "+text, "drain 2", "feed", "reset 7", "feed ab", "close", "drain 9", "close")
	return linesOf(lines)
}

// A call asks one function.
type call struct {
	name string
	ask  func(a arguments) []any
}

// both gives two or more answers as one list.
func both(answers ...any) []any {
	return answers
}

// allCalls asks each function that is built, chapter by chapter.
func allCalls() []call {
	return []call{
		{"FoldOf", func(a arguments) []any { return both(impl.FoldOf(a.b)) }},
		{"Folded", func(a arguments) []any { return both(impl.Folded(a.text)) }},
		{"Alike", func(a arguments) []any { return both(impl.Alike(a.text, a.pattern.Text, true)) }},
		{"MaskOf", func(a arguments) []any { return both(impl.MaskOf(a.pattern.Text, true, a.b)) }},
		{"PatternOk", func(a arguments) []any { return both(impl.PatternOk(a.pattern)) }},
		{"DictOk", func(a arguments) []any { return both(impl.DictOk(a.dict)) }},
		{"Escaped", func(a arguments) []any { return both(impl.Escaped(a.text)) }},
		{"Unescaped", func(a arguments) []any { return both(impl.Unescaped(a.text)) }},
		{"DictText", func(a arguments) []any { return both(impl.DictText(a.dict)) }},
		{"ReadDict", func(a arguments) []any { return both(impl.ReadDict(impl.DictText(a.dict) + "\n")) }},
		{"ReadDict of none", func(a arguments) []any { return both(impl.ReadDict(a.text)) }},
		{"Distance", func(a arguments) []any { return both(impl.Distance(a.text, a.pattern.Text, true)) }},
		{"FirstCol", func(a arguments) []any { return both(impl.FirstCol(a.pattern)) }},
		{"NextCol", func(a arguments) []any { return both(impl.NextCol(a.pattern, a.col, a.b)) }},
		{"ColOk", func(a arguments) []any { return both(impl.ColOk(a.pattern, a.col)) }},
		{"EndsOf", func(a arguments) []any { return both(impl.EndsOf(a.pattern, a.text)) }},
		{"MyersOk", func(a arguments) []any { return both(impl.MyersOk(a.pattern, a.myers)) }},
		{"MyersNew", func(a arguments) []any { return both(impl.MyersNew(a.pattern)) }},
		{"MyersStep", func(a arguments) []any { return both(impl.MyersStep(a.pattern, a.myers, a.b)) }},
		{"MyersCol", func(a arguments) []any { return both(impl.MyersCol(a.pattern, a.myers)) }},
		{"RowsOk", func(a arguments) []any { return both(impl.RowsOk(a.pattern, a.rows)) }},
		{"RowsNew", func(a arguments) []any { return both(impl.RowsNew(a.pattern)) }},
		{"RowsStep", func(a arguments) []any { return both(impl.RowsStep(a.pattern, a.rows, a.b)) }},
		{"RowsDist", func(a arguments) []any { return both(impl.RowsDist(a.pattern, a.rows)) }},
		{"CutOk", func(a arguments) []any { return both(impl.CutOk(a.pattern, a.cut)) }},
		{"CutNew", func(a arguments) []any { return both(impl.CutNew(a.pattern)) }},
		{"CutStep", func(a arguments) []any { return both(impl.CutStep(a.pattern, a.cut, a.b)) }},
		{"CutDist", func(a arguments) []any { return both(impl.CutDist(a.pattern, a.cut)) }},
		{"TrieOf", func(a arguments) []any { return both(impl.TrieOf(a.texts)) }},
		{"TrieOk", func(a arguments) []any { return both(impl.TrieOk(a.texts, a.nodes)) }},
		{"TrieStep", func(a arguments) []any { return both(impl.TrieStep(a.nodes, a.at, a.b)) }},
		{"TrieHits", func(a arguments) []any { return both(impl.TrieHits(a.nodes, a.at+1)) }},
		{"Occurs", func(a arguments) []any { return both(impl.Occurs(a.texts, a.text)) }},
		{"Always", func(a arguments) []any { return both(impl.Always(a.pattern)) }},
		{"PiecesOf", func(a arguments) []any { return both(impl.PiecesOf(a.pattern)) }},
		{"WindowOf", func(a arguments) []any { return both(impl.WindowOf(a.pattern, a.piece, a.at)) }},
		{"Windows", func(a arguments) []any { return both(impl.Windows(a.pattern, a.text)) }},
		{"Filtered", func(a arguments) []any { return both(impl.Filtered(a.pattern, a.text)) }},
		{"PlanOf", func(a arguments) []any { return both(impl.PlanOf(a.dict)) }},
		{"PlanOk", func(a arguments) []any { return both(impl.PlanOk(a.plan)) }},
		{"ScanAll", func(a arguments) []any { return both(impl.ScanAll(a.dict, a.text)) }},
		{"ScanPlan", func(a arguments) []any { return both(impl.ScanPlan(a.plan, a.text)) }},
		{"RingOk", func(a arguments) []any { return both(impl.RingOk(a.ring)) }},
		{"RingNew", func(a arguments) []any { return both(impl.RingNew(a.b, a.at)) }},
		{"RingPut", func(a arguments) []any { return both(impl.RingPut(a.ring, a.text)) }},
		{"RingCut", func(a arguments) []any { return both(impl.RingCut(a.ring, a.at+5, a.at+7)) }},
		{"SessionOk", func(a arguments) []any { return both(impl.SessionOk(a.session)) }},
		{"Open", func(a arguments) []any { return both(impl.Open(a.dict, 3, a.at)) }},
		{"Feed", func(a arguments) []any { return both(impl.Feed(a.session, a.text)) }},
		{"Drain", func(a arguments) []any { return both(impl.Drain(a.session, a.at)) }},
		{"Close", func(a arguments) []any { return both(impl.Close(a.session)) }},
		{"Reset", func(a arguments) []any { return both(impl.Reset(a.session, a.at)) }},
		{"DfaOf", func(a arguments) []any { return both(impl.DfaOf(a.pattern)) }},
		{"DfaOk", func(a arguments) []any { return both(impl.DfaOk(a.dfa)) }},
		{"DfaRun", func(a arguments) []any { return both(impl.DfaRun(a.dfa, a.text)) }},
		{"Minimal", func(a arguments) []any { return both(impl.Minimal(a.dfa)) }},
		{"PlanText", func(a arguments) []any { return both(impl.PlanText(a.plan)) }},
		{"ReadPlan", func(a arguments) []any { return both(impl.ReadPlan(wantPlanText(a.plan))) }},
		{"ReadPlan of none", func(a arguments) []any { return both(impl.ReadPlan(a.text)) }},
		{"AlignOf", func(a arguments) []any { return both(impl.AlignOf(a.text, a.pattern.Text, a.pattern.Fold)) }},
		{"AlignOk", func(a arguments) []any { return both(impl.AlignOk("ab", a.texts[0], false, "==")) }},
		{"StartOf", func(a arguments) []any { return both(impl.StartOf(a.pattern, a.text, a.at+3)) }},
		{"BkOf", func(a arguments) []any { return both(impl.BkOf(a.texts)) }},
		{"BkOk", func(a arguments) []any { return both(impl.BkOk(a.tree)) }},
		{"Near", func(a arguments) []any { return both(impl.Near(a.tree, a.pattern.Text, a.at+1)) }},
		{"GramsOf", func(a arguments) []any { return both(impl.GramsOf(a.text, a.at+1)) }},
		{"Common", func(a arguments) []any { return both(impl.Common(a.text, a.pattern.Text, a.at)) }},
		{"MayBe", func(a arguments) []any { return both(impl.MayBe(a.text, a.pattern.Text, 5, a.at)) }},
		{"NearBy", func(a arguments) []any { return both(impl.NearBy(a.texts, a.pattern.Text, 2, a.at)) }},
		{"FoundOk", func(a arguments) []any { return both(impl.FoundOk(a.found)) }},
		{"Leftmost", func(a arguments) []any { return both(impl.Leftmost(a.found)) }},
		{"BestOf", func(a arguments) []any { return both(impl.BestOf(a.found)) }},
		{"Marked", func(a arguments) []any { return both(impl.Marked(a.text, a.found[:1])) }},
		{"Marked out of order", func(a arguments) []any { return both(impl.Marked(a.text, a.found)) }},
		{"Hamming", func(a arguments) []any {
			return both(impl.Hamming(a.text[:len(a.pattern.Text)], a.pattern.Text, a.pattern.Fold))
		}},
		{"SwapDist", func(a arguments) []any { return both(impl.SwapDist(a.text, a.pattern.Text, a.pattern.Fold)) }},
		{"SwapEnds", func(a arguments) []any { return both(impl.SwapEnds(a.pattern, a.text)) }},
		{"CostOf", func(a arguments) []any { return both(impl.CostOf(a.text, a.pattern.Text, 3, 2, a.at)) }},
		{"WordsOf", func(a arguments) []any { return both(impl.WordsOf(a.text)) }},
		{"WholeEnds", func(a arguments) []any { return both(impl.WholeEnds(a.pattern, a.text)) }},
		{"StartDist", func(a arguments) []any { return both(impl.StartDist(a.pattern.Text, a.text)) }},
		{"Suggested", func(a arguments) []any { return both(impl.Suggested(a.texts, a.pattern.Text, 2, a.at+1)) }},
		{"Completed", func(a arguments) []any { return both(impl.Completed(a.texts, a.pattern.Text, 2, a.at+1)) }},
		{"RunScript", func(a arguments) []any { return both(impl.RunScript(scriptOf(a))) }},
		{"RunScript of none", func(a arguments) []any { return both(impl.RunScript(a.text)) }},
	}
}

// TestTheSameArgumentsGiveTheSameAnswers asks all functions one behind the
// other, and then again, the other way round: what one of them kept would tell
// in what others answer.
func TestTheSameArgumentsGiveTheSameAnswers(t *testing.T) {
	calls := allCalls()
	for _, want := range eachArguments() {
		held := heldArguments(want)
		first := make([]string, len(calls))
		for i, c := range calls {
			first[i] = fmt.Sprintf("%+v", c.ask(held))
			checkArguments(t, held, want)
		}
		for i, c := range slices.Backward(calls) {
			if again := fmt.Sprintf("%+v", c.ask(held)); again != first[i] {
				t.Errorf("%s answers %s, and then %s", c.name, first[i], again)
			}
		}
		checkArguments(t, held, want)
	}
}
