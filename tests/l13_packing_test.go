package tests

import (
	"fmt"
	"math/rand/v2"
	"regexp"
	"slices"
	"strings"
	"testing"
	"unsafe"

	"loop.example/g00568/impl"
)

func wantList(l []int64) string {
	return strings.ReplaceAll(strings.Trim(fmt.Sprint(l), "[]"), " ", ",")
}

// wantPatternLine gives a pattern's line without its end.
func wantPatternLine(p impl.Pattern) string {
	return fmt.Sprintf("%d %s %s", p.K, map[bool]string{true: "i", false: "-"}[p.Fold], wantEscaped(p.Text))
}

func wantPlanText(p impl.Plan) string {
	s := "plan\n"
	for _, x := range p.Dict {
		s += wantPatternLine(x) + "\n"
	}
	s += "parts\n"
	for _, x := range p.Parts {
		s += fmt.Sprintf("%d %d %s\n", x.Owner, x.At, wantEscaped(x.Text))
	}
	s += "nodes\n"
	for _, n := range p.Nodes {
		s += fmt.Sprintf("%d %d %d %s %s\n", n.Byte, n.Parent, n.Fail, wantList(n.Kids), wantList(n.Outs))
	}
	return s + "direct " + wantList(p.Direct) + "\n"
}

func checkPacked(t *testing.T, d []impl.Pattern) {
	t.Helper()
	p := wantPlan(d)
	s := impl.PlanText(p)
	if want := wantPlanText(p); s != want {
		t.Fatalf("PlanText of the plan of %+v = %q, want %q", d, s, want)
	}
	got, ok := impl.ReadPlan(s)
	if !ok || !samePlan(got, p) || !impl.PlanOk(got) {
		t.Fatalf("ReadPlan(%q) = %+v, %v, want %+v", s, got, ok, p)
	}
	if again := impl.PlanText(got); again != s {
		t.Fatalf("what was read of %q is written %q", s, again)
	}
}

var upToParts = regexp.MustCompile(`^plan\n((?:[0-9]+ [i-] .+\n)*)parts\n`)

// wantReadPlan asks whether s is the text of the one plan that has the
// dictionary which stands at its head.
func wantReadPlan(s string) (impl.Plan, bool) {
	head := upToParts.FindStringSubmatch(s)
	if head == nil {
		return impl.Plan{}, false
	}
	d, line, _ := wantRead(head[1])
	if p := wantPlan(d); line == 0 && len(d) <= 8 && wantPlanText(p) == s {
		return p, true
	}
	return impl.Plan{}, false
}

// checkReadPlan gives whether s is the text of a plan.
func checkReadPlan(t *testing.T, s string) bool {
	t.Helper()
	got, ok := impl.ReadPlan(s)
	want, wantOk := wantReadPlan(s)
	if ok != wantOk || !samePlan(got, want) {
		t.Fatalf("ReadPlan(%q) = %+v, %v, want %+v, %v", s, got, ok, want, wantOk)
	}
	if ok && impl.PlanText(got) != s {
		t.Fatalf("what was read of %q is written %q", s, impl.PlanText(got))
	}
	return ok
}

func checkNoPlanText(t *testing.T, s string) {
	t.Helper()
	if got, ok := impl.ReadPlan(s); ok || !samePlan(got, impl.Plan{}) {
		t.Errorf("ReadPlan(%q) = %+v, %v", s, got, ok)
	}
}

func TestPlanText(t *testing.T) {
	for want, d := range map[string][]impl.Pattern{
		"plan\nparts\nnodes\n0 0 0  \ndirect \n":                                                                                                  nil,
		"plan\n1 - x\n4 i aB\\n\nparts\nnodes\n0 0 0  \ndirect 0,1\n":                                                                             {{Text: "x", K: 1}, {Text: "aB\n", K: 4, Fold: true}},
		"plan\n0 - x\nparts\n0 0 x\nnodes\n0 0 0 1 \n120 0 0  0\ndirect \n":                                                                       {{Text: "x"}},
		"plan\n0 i A\n0 - \\\\\nparts\n0 0 a\n1 0 \\\\\nnodes\n0 0 0 1,2 \n97 0 0  0\n92 0 0  1\ndirect \n":                                       {{Text: "A", Fold: true}, {Text: "\\"}},
		"plan\n1 - \\xff\\x00\nparts\n0 0 \\xff\n0 1 \\x00\nnodes\n0 0 0 1,2 \n255 0 0  0\n0 0 0  1\ndirect \n":                                   {{Text: "\xff\x00", K: 1}},
		"plan\n1 i aBab\n2 - y\n0 - b\n1 - z\nparts\n0 0 ab\n0 2 ab\n2 0 b\nnodes\n0 0 0 1,3 \n97 0 0 2 \n98 1 3  0,1,2\n98 0 0  2\ndirect 1,3\n": {{Text: "aBab", K: 1, Fold: true}, {Text: "y", K: 2}, {Text: "b"}, {Text: "z", K: 1}},
		"plan\n0 - abcdefghijkl\nparts\n0 0 abcdefghijkl\nnodes\n0 0 0 1 \n97 0 0 2 \n98 1 0 3 \n99 2 0 4 \n100 3 0 5 \n101 4 0 6 \n102 5 0 7 \n103 6 0 8 \n104 7 0 9 \n105 8 0 10 \n106 9 0 11 \n107 10 0 12 \n108 11 0  0\ndirect \n": {{Text: "abcdefghijkl"}},
	} {
		p, _ := impl.PlanOf(d)
		if got := impl.PlanText(p); got != want {
			t.Errorf("PlanText of the plan of %+v = %q, want %q", d, got, want)
		}
		checkPacked(t, d)
	}
}

func TestRightPlansComeBack(t *testing.T) {
	for _, d := range edgeDicts() {
		checkPacked(t, d)
	}
	for n := range 9 {
		checkPacked(t, manyPatterns(n))
	}
	for _, p := range eachPattern() {
		checkPacked(t, []impl.Pattern{p})
		checkPacked(t, []impl.Pattern{{Text: "b", K: 1}, p, p})
	}
	all := allBytes()
	for b := range 256 {
		for k := range int64(3) {
			checkPacked(t, []impl.Pattern{{Text: all[b : b+1], K: k}, {Text: "z" + all[b:b+1] + "A", K: k, Fold: true}})
		}
	}
	r := rand.New(rand.NewPCG(13, 1))
	for range 300 {
		checkPacked(t, someDict(r))
	}
	for range 100 {
		var d []impl.Pattern
		for range r.IntN(9) {
			d = append(d, somePattern(r, all, 1+r.IntN(20)))
		}
		checkPacked(t, d)
	}
}

// longestDict has the longest text that a plan can have, or nearly so.
func longestDict() []impl.Pattern {
	all := allBytes()
	var d []impl.Pattern
	for i := range 8 {
		d = append(d, impl.Pattern{Text: all[256-20*(i+1) : 256-20*i], K: 4})
	}
	return d
}

// TestPlanTextsAreNoLongerThanWhatIsRead: a limit that kept a right plan from
// being read would break the promise.
func TestPlanTextsAreNoLongerThanWhatIsRead(t *testing.T) {
	for k := range int64(5) {
		d := longestDict()
		for i := range d {
			d[i].K = k
		}
		checkPacked(t, d)
		p, _ := impl.PlanOf(d)
		if s := impl.PlanText(p); len(s) < 2000 || len(s) > 20000 {
			t.Errorf("with %d faults the text has %d bytes", k, len(s))
		}
	}
}

func TestPlanTextOfWrongPlans(t *testing.T) {
	right, wrong := 0, 0
	for _, d := range [][]impl.Pattern{
		nil, {{Text: "ab"}}, {{Text: "x", K: 1}},
		{{Text: "aBcd", K: 1, Fold: true}, {Text: "x", K: 1}, {Text: "cd"}, {Text: "ab", K: 4}},
	} {
		for _, p := range append(changedPlans(wantPlan(d)), impl.Plan{}, impl.Plan{Dict: d}) {
			want := ""
			if impl.DictOk(p.Dict) && samePlan(p, wantPlan(p.Dict)) {
				want = wantPlanText(p)
				right++
			} else {
				wrong++
			}
			if got := impl.PlanText(p); got != want {
				t.Errorf("PlanText(%+v) = %q, want %q", p, got, want)
			}
			if want == "" {
				checkReadPlan(t, wantPlanText(p)) // its text is none, or another plan's
			}
		}
	}
	if right < 10 || wrong < 300 {
		t.Errorf("%d were right, %d wrong", right, wrong)
	}
}

// rightText is the text of a plan that has some of everything.
const rightText = "plan\n1 i aBc\n4 - a\n0 - \\x20c\n0 - c\n2 i xy\nparts\n0 0 a\n0 1 bc\n2 0 \\x20c\n3 0 c\nnodes\n0 0 0 1,2,4,6 \n97 0 0  0\n98 0 0 3 \n99 2 6  1,3\n32 0 0 5 \n99 4 6  2,3\n99 0 0  3\ndirect 1,4\n"

func TestReadPlan(t *testing.T) {
	got, ok := impl.ReadPlan(rightText)
	want := impl.Plan{
		Dict:  []impl.Pattern{{Text: "aBc", K: 1, Fold: true}, {Text: "a", K: 4}, {Text: " c"}, {Text: "c"}, {Text: "xy", K: 2, Fold: true}},
		Parts: []impl.Part{{Owner: 0, At: 0, Text: "a"}, {Owner: 0, At: 1, Text: "bc"}, {Owner: 2, At: 0, Text: " c"}, {Owner: 3, At: 0, Text: "c"}},
		Nodes: []impl.Node{
			{Kids: []int64{1, 2, 4, 6}},
			{Byte: 'a', Outs: []int64{0}},
			{Byte: 'b', Kids: []int64{3}},
			{Byte: 'c', Parent: 2, Fail: 6, Outs: []int64{1, 3}},
			{Byte: ' ', Kids: []int64{5}},
			{Byte: 'c', Parent: 4, Fail: 6, Outs: []int64{2, 3}},
			{Byte: 'c', Outs: []int64{3}},
		},
		Direct: []int64{1, 4},
	}
	if !ok || !samePlan(got, want) {
		t.Errorf("ReadPlan(%q) = %+v, %v, want %+v", rightText, got, ok, want)
	}
}

// TestReadPlanOfWrongTexts replaces one thing of a right text by another.
func TestReadPlanOfWrongTexts(t *testing.T) {
	for _, c := range [][2]string{
		{"plan\n", ""}, {"plan\n", "Plan\n"}, {"plan\n", "plan \n"}, {"plan\n", " plan\n"}, {"plan\n", "plan"}, {"plan\n", "\nplan\n"}, {"plan\n", "plan\n\n"}, {"plan\n", "plan\r\n"}, {"plan\n", "plan\n# none\n"}, {"plan\n", "plan\nplan\n"},
		{"1 i aBc\n", ""}, {"1 i aBc\n", "1 i aBc\n1 i aBc\n"}, {"1 i aBc\n", "1  i aBc\n"}, {"1 i aBc\n", "1 i  aBc\n"}, {"1 i aBc\n", "1 i aBc \n"}, {"1 i aBc\n", " 1 i aBc\n"}, {"1 i aBc\n", "01 i aBc\n"}, {"1 i aBc\n", "+1 i aBc\n"}, {"1 i aBc\n", "1 q aBc\n"}, {"1 i aBc\n", "1 i a\\x42c\n"}, {"1 i aBc\n", "1 i \n"}, {"1 i aBc\n", "1 i a\\qc\n"}, {"1 i aBc\n", "0000000001 i aBc\n"}, {"1 i aBc\n", "1 - aBc\n\n"}, {"1 i aBc\n", "1 - aBc\n#\n"}, // also where the rest would be right
		{"\\x20c\n0 - c", " c\n0 - c"}, {"\\x20c\n0 - c", "\\X20c\n0 - c"}, {"2 0 \\x20c", "2 0  c"}, {"2 0 \\x20c", "2 0 \\x20\\x63"},
		{"parts\n", ""}, {"parts\n", "parts \n"}, {"parts\n", "Parts\n"}, {"parts\n", "parts"}, {"parts\n", "parts\n\n"}, {"parts\n", "\nparts\n"}, {"parts\n", "parts\nparts\n"}, {"parts\n", "part\n"},
		{"0 0 a\n", ""}, {"0 0 a\n", "0 0 a\n0 0 a\n"}, {"0 0 a\n", "0  0 a\n"}, {"0 0 a\n", "0 0  a\n"}, {"0 0 a\n", "0 0 a \n"}, {"0 0 a\n", "0 0 A\n"}, {"0 0 a\n", "0 0a\n"}, {"0 0 a\n", "00 0 a\n"}, {"0 0 a\n", "0 00 a\n"}, {"0 0 a\n", "-0 0 a\n"}, {"0 0 a\n", "0 +0 a\n"}, {"0 0 a\n", "0 0 \\x61\n"}, {"0 0 a\n", "1 0 a\n"}, {"0 0 a\n", "0 1 a\n"}, {"0 0 a\n", "0000000000 0 a\n"}, {"0 0 a\n", "0 1000000000 a\n"}, {"0 0 a\n", "0 4294967296 a\n"}, {"0 0 a\n", "0 18446744073709551616 a\n"},
		{"nodes\n", ""}, {"nodes\n", "nodes \n"}, {"nodes\n", "nodes"}, {"nodes\n", "nodes\n\n"}, {"nodes\n", "\nnodes\n"}, {"nodes\n", "nodes\nnodes\n"},
		{"0 0 0 1,2,4,6 \n", ""}, {"0 0 0 1,2,4,6 \n", "0 0 0 1,2,4,6\n"}, {"0 0 0 1,2,4,6 \n", "0 0 0 1,2,4,6  \n"}, {"0 0 0 1,2,4,6 \n", "0 0 0 1,2,4,6, \n"}, {"0 0 0 1,2,4,6 \n", "0 0 0 ,1,2,4,6 \n"}, {"0 0 0 1,2,4,6 \n", "0 0 0 1,,2,4,6 \n"}, {"0 0 0 1,2,4,6 \n", "0 0 0 1, 2,4,6 \n"}, {"0 0 0 1,2,4,6 \n", "0 0 0 1 2 4 6 \n"}, {"0 0 0 1,2,4,6 \n", "0 0 0 1,2,4,6 ,\n"}, {"0 0 0 1,2,4,6 \n", "0 0 0 1,2,4 \n"}, {"0 0 0 1,2,4,6 \n", "0 0 0 2,1,4,6 \n"}, {"0 0 0 1,2,4,6 \n", "0 0 0 1,2,4,06 \n"}, {"0 0 0 1,2,4,6 \n", "0 0 0 1,2,4,+6 \n"}, {"0 0 0 1,2,4,6 \n", "0 0 0 1,2,4,4294967302 \n"}, {"0 0 0 1,2,4,6 \n", "0 0 0 1,2,4,0000000006 \n"}, {"0 0 0 1,2,4,6 \n", "0 0 0 [1,2,4,6] \n"}, {"0 0 0 1,2,4,6 \n", "0 0 0\t1,2,4,6 \n"},
		{"97 0 0  0\n", "97 0 0 0\n"}, {"97 0 0  0\n", "97 0 0   0\n"}, {"97 0 0  0\n", "97 0 0  0 \n"}, {"97 0 0  0\n", "97 0 0 0 \n"}, {"97 0 0  0\n", "097 0 0  0\n"}, {"97 0 0  0\n", "97 0 0  00\n"}, {"97 0 0  0\n", "97 0 0  -0\n"}, {"97 0 0  0\n", "97 0  0\n"}, {"97 0 0  0\n", "97 0 0 - 0\n"}, {"97 0 0  0\n", "65 0 0  0\n"}, {"97 0 0  0\n", "353 0 0  0\n"}, {"97 0 0  0\n", "a 0 0  0\n"},
		{"99 2 6  1,3\n", "99 2 6  1,3,\n"}, {"99 2 6  1,3\n", "99 2 6  1\n"}, {"99 2 6  1,3\n", "99 2 6  3,1\n"}, {"99 2 6  1,3\n", "99 2 6  1,1,3\n"}, {"99 2 6  1,3\n", "99 2 0  1,3\n"}, {"99 2 6  1,3\n", "99 0 6  1,3\n"}, {"99 2 6  1,3\n", "99 2 6  1,3\n99 2 6  1,3\n"},
		{"direct 1,4\n", ""}, {"direct 1,4\n", "direct 1,4"}, {"direct 1,4\n", "direct 1,4 \n"}, {"direct 1,4\n", "direct  1,4\n"}, {"direct 1,4\n", "direct1,4\n"}, {"direct 1,4\n", "direct\n"}, {"direct 1,4\n", "direct \n"}, {"direct 1,4\n", "direct 1\n"}, {"direct 1,4\n", "direct 4,1\n"}, {"direct 1,4\n", "direct 1, 4\n"}, {"direct 1,4\n", "direct 1 4\n"}, {"direct 1,4\n", "direct 1,04\n"}, {"direct 1,4\n", "direct 1,4,\n"}, {"direct 1,4\n", "direct 1,4,4\n"}, {"direct 1,4\n", "Direct 1,4\n"}, {"direct 1,4\n", "direct 1,4\n\n"}, {"direct 1,4\n", "direct 1,4\ndirect 1,4\n"}, {"direct 1,4\n", "direct 1,4\nplan\n"}, {"direct 1,4\n", "direct 1,4\n "}, {"direct 1,4\n", "direct 1,4\n\x00"}, {"direct 1,4\n", "direct 1,4\r\n"}, {"direct 1,4\n", "direct 1,0000000004\n"}, {"direct 1,4\n", "direct 1,1000000004\n"},
	} {
		if !strings.Contains(rightText, c[0]) {
			t.Fatalf("%q is not there", c[0])
		}
		s := strings.Replace(rightText, c[0], c[1], 1)
		checkNoPlanText(t, s)
		checkReadPlan(t, s)
	}
	for _, s := range []string{
		"", "\n", "plan", "plan\n", "plan\nparts", "plan\nparts\n", "plan\nparts\nnodes\n", "plan\nparts\nnodes\n0 0 0  \n", "plan\nparts\nnodes\ndirect \n", "parts\nnodes\n0 0 0  \ndirect \n",
		"plan\nparts\nnodes\n0 0 0  \ndirect", "plan\nparts\nnodes\n0 0 0  \ndirect ", "plan\nparts\nnodes\n0 0 0  \ndirect\n", "plan\nparts\nnodes\n0 0 0 \ndirect \n", "plan\nparts\nnodes\n0 0 0\ndirect \n", "plan\nparts\nnodes\n0 0 0   \ndirect \n",
		"plan\n\nparts\nnodes\n0 0 0  \ndirect \n", "plan\n#\nparts\nnodes\n0 0 0  \ndirect \n", "plan\n5 - a\nparts\nnodes\n0 0 0  \ndirect \n", "plan\n0 q a\nparts\nnodes\n0 0 0  \ndirect \n", "plan\nx\nparts\nnodes\n0 0 0  \ndirect \n",
		rightText + rightText, "parts\n" + rightText, strings.ToUpper(rightText), strings.ReplaceAll(rightText, "\n", "\r\n"), strings.ReplaceAll(rightText, "\n", " "), strings.TrimRight(rightText, "\n"),
	} {
		checkNoPlanText(t, s)
		checkReadPlan(t, s)
	}
	checkReadPlan(t, "plan\nparts\nnodes\n0 0 0  \ndirect \n")
}

// TestReadPlanOfMoreThanADictionary: nine patterns are no dictionary, whatever
// stands behind them.
func TestReadPlanOfMoreThanADictionary(t *testing.T) {
	for _, n := range []int{8, 9, 10, 100} {
		d := slices.Repeat([]impl.Pattern{{Text: "a"}}, n)
		if s := wantPlanText(wantPlan(d)); checkReadPlan(t, s) != (n <= 8) {
			t.Errorf("read %d patterns: %v", n, n > 8)
		}
	}
	for _, p := range wrongPatterns() {
		checkNoPlanText(t, wantPlanText(wantPlan([]impl.Pattern{{Text: "a"}, {Text: "b" + p.Text, K: 5}})))
	}
}

// shortTexts are the texts of a few plans, each one with other things in it.
func shortTexts() []string {
	var out []string
	for _, d := range [][]impl.Pattern{
		nil, {{Text: "x", K: 1}}, {{Text: "ab", K: 2, Fold: true}, {Text: "a", K: 4}}, {{Text: "aB", K: 1, Fold: true}, {Text: "\\"}}, {{Text: "\xff", K: 0}, {Text: "\xff"}, {Text: "\n", K: 1}},
	} {
		out = append(out, wantPlanText(wantPlan(d)))
	}
	return append(out, rightText)
}

// TestReadPlanOfEachChangedByte changes each byte to each other, leaves it out,
// and puts some in. A few of these texts are those of other plans.
func TestReadPlanOfEachChangedByte(t *testing.T) {
	right, wrong := 0, 0
	count := func(s string) {
		if checkReadPlan(t, s) {
			right++
		} else {
			wrong++
		}
	}
	for _, s := range shortTexts() {
		for at := range len(s) {
			for b := range 256 {
				if s[at] != byte(b) {
					count(s[:at] + string([]byte{byte(b)}) + s[at+1:])
				}
			}
			count(s[:at] + s[at+1:])
			for _, b := range "0129 ,-+i\n\\ax#\x00" {
				count(s[:at] + string(b) + s[at:])
			}
			count(s[:at])
		}
		for _, b := range "0129 ,-+i\n\\ax#\x00" {
			count(s + string(b))
		}
	}
	if right < 10 || wrong < 50000 {
		t.Errorf("%d were right, %d wrong", right, wrong)
	}
}

// TestReadPlanOfEachMovedLine leaves each line out, says it twice, and moves it
// to each place; what is right then has the same lines in another place.
func TestReadPlanOfEachMovedLine(t *testing.T) {
	texts := shortTexts()
	for _, d := range edgeDicts() {
		texts = append(texts, wantPlanText(wantPlan(d)))
	}
	right, wrong := 0, 0
	for _, s := range texts {
		lines := strings.SplitAfter(strings.TrimSuffix(s, "\n"), "\n")
		lines[len(lines)-1] += "\n"
		if len(lines) > 60 {
			lines = append(lines[:40:40], lines[len(lines)-20:]...)
		}
		for from, line := range lines {
			without := slices.Delete(slices.Clone(lines), from, from+1)
			checkReadPlan(t, strings.Join(without, ""))
			for to := range lines {
				checkReadPlan(t, strings.Join(slices.Insert(slices.Clone(lines), to, line), ""))
				if checkReadPlan(t, strings.Join(slices.Insert(slices.Clone(without), to, line), "")) {
					right++
				} else {
					wrong++
				}
			}
		}
	}
	if right < 50 || wrong < 1000 {
		t.Errorf("%d were right, %d wrong", right, wrong)
	}
}

func TestReadPlanOfManyBytes(t *testing.T) {
	for _, length := range []int{19999, 20000, 20001, 40000, 1 << 20} {
		for _, s := range []string{
			rightText + strings.Repeat("\n", length), strings.Repeat("plan\n", length), "plan\n" + strings.Repeat("0 - a\n", length), "plan\n" + strings.Repeat("#", length),
			"plan\nparts\nnodes\n0 0 0  \ndirect " + strings.Repeat(" ", length), strings.Repeat("\x00", length), strings.Repeat("plan\nparts\n", length),
		} {
			checkNoPlanText(t, s[:length])
		}
		comment := "plan\n#" + strings.Repeat("a", length-len(rightText)-2) + "\n"
		if s := comment + rightText[len("plan\n"):]; len(s) != length {
			t.Fatal(len(s))
		} else {
			checkNoPlanText(t, s)
		}
	}
}

func TestPackedPlansAreOnlyRead(t *testing.T) {
	for _, d := range edgeDicts() {
		want := wantPlan(d)
		held := heldPlan(want)
		first, again := impl.PlanText(held), impl.PlanText(held)
		if first != again || first != wantPlanText(want) {
			t.Errorf("PlanText = %q, and then %q", first, again)
		}
		checkHeldPlan(t, held, want)
		spoilPlan(held)
		if first != wantPlanText(want) || again != first {
			t.Errorf("the text has become %q", first)
		}
		wrong := heldPlan(want)
		wrong.Nodes[0].Byte = 1
		impl.PlanText(wrong)
		wrong.Nodes[0].Byte = 0
		checkHeldPlan(t, wrong, want)
	}
}

func TestReadPlansAreNewMemory(t *testing.T) {
	for _, text := range shortTexts() {
		from := []byte(text)
		s := unsafe.String(&from[0], len(from))
		first, _ := impl.ReadPlan(s)
		again, _ := impl.ReadPlan(s)
		want, _ := wantReadPlan(text)
		if s != text {
			t.Errorf("%q has become %q", text, s)
		}
		clear(from)
		if !samePlan(first, want) || !samePlan(again, want) {
			t.Errorf("the plans of %q have become %+v and %+v", text, first, again)
		}
		spoilPlan(first)
		if !samePlan(again, want) {
			t.Errorf("two plans of %q share their memory: %+v", text, again)
		}
	}
}

// TestListsOfAReadPlanShareNoMemory writes one list full and looks at all the
// others.
func TestListsOfAReadPlanShareNoMemory(t *testing.T) {
	want, _ := impl.ReadPlan(rightText)
	check := func(change func(got *impl.Plan)) {
		t.Helper()
		got, _ := impl.ReadPlan(rightText)
		change(&got)
		if !samePlan(got, want) {
			t.Errorf("a list shares its memory: %+v has become %+v", want, got)
		}
	}
	check(func(got *impl.Plan) { clear(got.Dict[:cap(got.Dict)]); got.Dict = want.Dict })
	check(func(got *impl.Plan) { clear(got.Parts[:cap(got.Parts)]); got.Parts = want.Parts })
	check(func(got *impl.Plan) { spoil(got.Direct); got.Direct = want.Direct })
	for at := range want.Nodes {
		check(func(got *impl.Plan) { spoil(got.Nodes[at].Kids); got.Nodes[at].Kids = want.Nodes[at].Kids })
		check(func(got *impl.Plan) { spoil(got.Nodes[at].Outs); got.Nodes[at].Outs = want.Nodes[at].Outs })
	}
}
