package tests

import (
	"math"
	"math/rand/v2"
	"slices"
	"strings"
	"testing"
	"unsafe"

	"loop.example/g00568/impl"
)

// cloneSession shares no memory with s.
func cloneSession(s impl.Session) impl.Session {
	s.Dict, s.Queue, s.Cols = slices.Clone(s.Dict), slices.Clone(s.Queue), slices.Clone(s.Cols)
	for i, col := range s.Cols {
		s.Cols[i] = slices.Clone(col)
	}
	return s
}

func sameSession(a impl.Session, b impl.Session) bool {
	return slices.Equal(a.Dict, b.Dict) && a.Room == b.Room && a.Base == b.Base && a.At == b.At &&
		slices.EqualFunc(a.Cols, b.Cols, slices.Equal[[]int64]) && slices.Equal(a.Queue, b.Queue) && a.Closed == b.Closed
}

// wantOpen says a session of nothing without its columns' help.
func wantOpen(d []impl.Pattern, room int64, base int64) (impl.Session, int64) {
	switch {
	case !impl.DictOk(d):
		return impl.Session{}, impl.SnForm
	case room < 1 || room < int64(len(d)) || room > 100:
		return impl.Session{}, impl.SnQueue
	case base < 0 || base > maxOffset:
		return impl.Session{}, impl.SnOffset
	}
	s := impl.Session{Dict: d, Room: room, Base: base, At: base}
	for pattern, p := range d {
		var col []int64
		for n := range int64(len(p.Text) + 1) {
			col = append(col, n)
		}
		s.Cols = append(s.Cols, col)
		if length := int64(len(p.Text)); length <= p.K {
			s.Queue = append(s.Queue, impl.Rec{Pattern: int64(pattern), End: base, Dist: length})
		}
	}
	return s, impl.SnOk
}

// wantFeed takes a chunk as the document says, number by number.
func wantFeed(s impl.Session, chunk string) (impl.Session, int64, int64) {
	s = cloneSession(s)
	if s.Closed {
		return s, 0, impl.SnClosed
	}
	for i := range len(chunk) {
		if s.At == maxOffset {
			return s, int64(i), impl.SnOffset
		}
		next := cloneSession(s)
		next.At++
		for pattern, p := range s.Dict {
			col := wantNextCol(p, s.Cols[pattern], chunk[i])
			next.Cols[pattern] = col
			if least := col[len(col)-1]; least <= p.K {
				next.Queue = append(next.Queue, impl.Rec{Pattern: int64(pattern), End: next.At, Dist: least})
			}
		}
		if int64(len(next.Queue)) > s.Room {
			return s, int64(i), impl.SnQueue
		}
		s = next
	}
	return s, int64(len(chunk)), impl.SnOk
}

func checkOpen(t *testing.T, d []impl.Pattern, room int64, base int64) impl.Session {
	t.Helper()
	got, code := impl.Open(d, room, base)
	want, wantCode := wantOpen(d, room, base)
	if !sameSession(got, want) || code != wantCode {
		t.Fatalf("Open(%+v, %d, %d) = %+v, %d, want %+v, %d", d, room, base, got, code, want, wantCode)
	}
	if impl.SessionOk(got) != (code == impl.SnOk) {
		t.Fatalf("SessionOk of Open(%+v, %d, %d) is not %v", d, room, base, code == impl.SnOk)
	}
	return got
}

func checkFeed(t *testing.T, s impl.Session, chunk string) (impl.Session, int64, int64) {
	t.Helper()
	got, taken, code := impl.Feed(s, chunk)
	want, wantTaken, wantCode := wantFeed(s, chunk)
	if !sameSession(got, want) || taken != wantTaken || code != wantCode || !impl.SessionOk(got) {
		t.Fatalf("Feed(%+v, %q) = %+v, %d, %d, want %+v, %d, %d", s, chunk, got, taken, code, want, wantTaken, wantCode)
	}
	return got, taken, code
}

func checkDrain(t *testing.T, s impl.Session, most int64) (impl.Session, []impl.Rec) {
	t.Helper()
	got, recs := impl.Drain(s, most)
	want := cloneSession(s)
	var wantRecs []impl.Rec
	for int64(len(wantRecs)) < most && len(want.Queue) > 0 {
		wantRecs, want.Queue = append(wantRecs, want.Queue[0]), want.Queue[1:]
	}
	if !sameSession(got, want) || !slices.Equal(recs, wantRecs) || !impl.SessionOk(got) {
		t.Fatalf("Drain(%+v, %d) = %+v, %+v, want %+v, %+v", s, most, got, recs, want, wantRecs)
	}
	return got, recs
}

func checkClose(t *testing.T, s impl.Session) impl.Session {
	t.Helper()
	got, code := impl.Close(s)
	want, wantCode := cloneSession(s), int64(impl.SnOk)
	if s.Closed {
		wantCode = impl.SnClosed
	}
	want.Closed = true
	if !sameSession(got, want) || code != wantCode || !impl.SessionOk(got) {
		t.Fatalf("Close(%+v) = %+v, %d, want %+v, %d", s, got, code, want, wantCode)
	}
	return got
}

func checkReset(t *testing.T, s impl.Session, base int64) impl.Session {
	t.Helper()
	got, code := impl.Reset(s, base)
	want, wantCode := wantOpen(s.Dict, s.Room, base)
	if wantCode != impl.SnOk {
		want = s
	}
	if !sameSession(got, want) || code != wantCode || !impl.SessionOk(got) {
		t.Fatalf("Reset(%+v, %d) = %+v, %d, want %+v, %d", s, base, got, code, want, wantCode)
	}
	return got
}

// checkWrongSession looks that a session that is not right is refused, with no
// session, whatever else is wrong with the call.
func checkWrongSession(t *testing.T, s impl.Session) {
	t.Helper()
	for _, closed := range []bool{false, true} {
		s.Closed = closed
		if impl.SessionOk(s) {
			t.Errorf("SessionOk(%+v) is true", s)
		}
		for _, chunk := range []string{"", "a", "abxb", strings.Repeat("a", 300)} {
			if got, taken, code := impl.Feed(s, chunk); !sameSession(got, impl.Session{}) || taken != 0 || code != impl.SnForm {
				t.Errorf("Feed(%+v, %q) = %+v, %d, %d", s, chunk, got, taken, code)
			}
		}
		for _, most := range []int64{math.MinInt64, -1, 0, 1, 2, 100, math.MaxInt64} {
			if got, recs := impl.Drain(s, most); !sameSession(got, impl.Session{}) || len(recs) != 0 {
				t.Errorf("Drain(%+v, %d) = %+v, %+v", s, most, got, recs)
			}
		}
		if got, code := impl.Close(s); !sameSession(got, impl.Session{}) || code != impl.SnForm {
			t.Errorf("Close(%+v) = %+v, %d", s, got, code)
		}
		for _, base := range ringEdges() {
			if got, code := impl.Reset(s, base); !sameSession(got, impl.Session{}) || code != impl.SnForm {
				t.Errorf("Reset(%+v, %d) = %+v, %d", s, base, got, code)
			}
		}
	}
}

// checkRightSession asks everything of a session that is right.
func checkRightSession(t *testing.T, s impl.Session, chunk string) {
	t.Helper()
	if !impl.SessionOk(s) {
		t.Fatalf("SessionOk(%+v) is false", s)
	}
	waiting := int64(len(s.Queue))
	checkFeed(t, s, chunk)
	checkFeed(t, s, "")
	for _, most := range []int64{math.MinInt64, -1, 0, 1, waiting - 1, waiting, waiting + 1, math.MaxInt64} {
		checkDrain(t, s, most)
	}
	checkClose(t, s)
	for _, base := range []int64{-1, 0, 1, s.Base, s.At, maxOffset, maxOffset + 1} {
		checkReset(t, s, base)
	}
}

func TestSessionCodes(t *testing.T) {
	got := []int64{impl.SnOk, impl.SnForm, impl.SnQueue, impl.SnOffset, impl.SnClosed, impl.MaxQueue}
	if !slices.Equal(got, []int64{0, 1, 2, 3, 4, 100}) {
		t.Errorf("the codes and the limit are %d", got)
	}
}

func TestSessionStepByStep(t *testing.T) {
	d := []impl.Pattern{{Text: "ab", K: 1}, {Text: "b"}, {Text: "x", K: 1}}
	s := checkOpen(t, d, 3, 100)
	want := impl.Session{
		Dict: d, Room: 3, Base: 100, At: 100,
		Cols:  [][]int64{{0, 1, 2}, {0, 1}, {0, 1}},
		Queue: []impl.Rec{{Pattern: 2, End: 100, Dist: 1}},
	}
	if !sameSession(s, want) {
		t.Errorf("opened: %+v", s)
	}
	s, taken, code := checkFeed(t, s, "abx")
	want.At, want.Cols = 101, [][]int64{{0, 0, 1}, {0, 1}, {0, 1}}
	want.Queue = append(want.Queue, impl.Rec{End: 101, Dist: 1}, impl.Rec{Pattern: 2, End: 101, Dist: 1})
	if !sameSession(s, want) || taken != 1 || code != impl.SnQueue {
		t.Errorf("fed until there is no room: %+v, %d, %d", s, taken, code)
	}
	s, recs := checkDrain(t, s, 2) // room for two more, but three are found behind b
	if !slices.Equal(recs, want.Queue[:2]) {
		t.Errorf("drained: %+v", recs)
	}
	stopped, taken, code := checkFeed(t, s, "bx")
	if !sameSession(stopped, s) || taken != 0 || code != impl.SnQueue {
		t.Errorf("fed where three do not fit: %+v, %d, %d", stopped, taken, code)
	}
	s, _ = checkDrain(t, s, 1)
	s, taken, code = checkFeed(t, s, "b")
	want.At, want.Cols = 102, [][]int64{{0, 1, 0}, {0, 0}, {0, 1}}
	want.Queue = []impl.Rec{{End: 102}, {Pattern: 1, End: 102}, {Pattern: 2, End: 102, Dist: 1}}
	if !sameSession(s, want) || taken != 1 || code != impl.SnOk {
		t.Errorf("fed when there is room: %+v, %d, %d", s, taken, code)
	}
}

func TestOpen(t *testing.T) {
	for _, n := range []int{0, 1, 2, 7, 8} {
		for _, always := range []bool{false, true} {
			d := manyPatterns(n)
			for i := range d {
				if always {
					d[i].K = 4
				}
			}
			count := int64(n)
			for _, room := range []int64{math.MinInt64, -100, -1, 0, 1, 2, count - 1, count, count + 1, 99, 100, 101, 1 << 32, 1<<32 + 50, math.MaxInt64} {
				for _, base := range ringEdges() {
					checkOpen(t, d, room, base)
				}
			}
		}
	}
	for _, d := range edgeDicts() {
		for _, base := range []int64{0, 77, maxOffset} {
			checkOpen(t, d, max(1, int64(len(d))), base)
			checkOpen(t, d, impl.MaxQueue, base)
			checkOpen(t, d, max(1, int64(len(d)))-1, base)
		}
	}
}

// TestOpenOfNoPatterns: room for one record is wanted even so.
func TestOpenOfNoPatterns(t *testing.T) {
	for _, d := range [][]impl.Pattern{nil, {}} {
		if _, code := impl.Open(d, 0, 5); code != impl.SnQueue {
			t.Errorf("opened without room: %d", code)
		}
		s, code := impl.Open(d, 1, 5)
		if code != impl.SnOk || !sameSession(s, impl.Session{Room: 1, Base: 5, At: 5}) {
			t.Errorf("opened without patterns: %+v, %d", s, code)
		}
		s, taken, code := checkFeed(t, s, strings.Repeat("a", 1000))
		if taken != 1000 || code != impl.SnOk || len(s.Queue) != 0 || s.At != 1005 {
			t.Errorf("fed without patterns: %+v, %d, %d", s, taken, code)
		}
	}
}

func TestOpenTellsWhatIsAlwaysThere(t *testing.T) {
	d := []impl.Pattern{{Text: "abcd", K: 4}, {Text: "ab", K: 1}, {Text: "x", K: 1}, {Text: "abc", K: 3}, {Text: "abcde", K: 4}, {Text: "y", K: 4}}
	for _, base := range []int64{0, 1, 50, maxOffset} {
		s := checkOpen(t, d, 6, base)
		if want := []impl.Rec{{End: base, Dist: 4}, {Pattern: 2, End: base, Dist: 1}, {Pattern: 3, End: base, Dist: 3}, {Pattern: 5, End: base, Dist: 1}}; !slices.Equal(s.Queue, want) {
			t.Errorf("opened at %d, %+v wait", base, s.Queue)
		}
	}
	all := slices.Repeat([]impl.Pattern{{Text: "ab", K: 2}}, 8)
	if s := checkOpen(t, all, 8, 3); len(s.Queue) != 8 {
		t.Errorf("%+v wait", s.Queue)
	}
}

// TestOpenRefusesInOrder: the dictionary is asked ahead of the room, and that
// ahead of the base.
func TestOpenRefusesInOrder(t *testing.T) {
	wrong := [][]impl.Pattern{manyPatterns(9), make([]impl.Pattern, 300)}
	for _, p := range wrongPatterns() {
		wrong = append(wrong, []impl.Pattern{p}, append(manyPatterns(7), p))
	}
	for _, room := range []int64{-1, 0, 1, 8, 50, 100, 101} {
		for _, base := range []int64{-1, 0, 7, maxOffset, maxOffset + 1} {
			for _, d := range wrong {
				if s, code := impl.Open(d, room, base); code != impl.SnForm || !sameSession(s, impl.Session{}) {
					t.Errorf("Open(%+v, %d, %d) = %+v, %d", d, room, base, s, code)
				}
			}
			want := int64(impl.SnOk)
			if room < 8 || room > 100 {
				want = impl.SnQueue
			} else if base < 0 || base > maxOffset {
				want = impl.SnOffset
			}
			if s, code := impl.Open(manyPatterns(8), room, base); code != want || impl.SessionOk(s) != (want == impl.SnOk) {
				t.Errorf("Open with room %d at %d: %d, want %d", room, base, code, want)
			}
		}
	}
}

// rightSession has as many records as it has room for.
func rightSession() impl.Session {
	return impl.Session{
		Dict: []impl.Pattern{{Text: "ab", K: 1}, {Text: "b"}, {Text: "x", K: 1}},
		Room: 5, Base: 10, At: 12,
		Cols:  [][]int64{{0, 1, 0}, {0, 0}, {0, 1}},
		Queue: []impl.Rec{{Pattern: 2, End: 10, Dist: 1}, {End: 11, Dist: 1}, {Pattern: 2, End: 11, Dist: 1}, {End: 12}, {Pattern: 1, End: 12}},
	}
}

// changedSession gives the right session with one thing changed, with its
// records or without them.
func changedSession(waiting bool, change func(s *impl.Session)) impl.Session {
	s := rightSession()
	if !waiting {
		s.Queue = nil
	}
	change(&s)
	return s
}

func checkChanged(t *testing.T, waiting bool, right bool, change func(s *impl.Session)) {
	t.Helper()
	s := changedSession(waiting, change)
	if right {
		checkRightSession(t, s, "abxabb")
		s.Closed = true
		checkRightSession(t, s, "abxabb")
	} else {
		checkWrongSession(t, s)
	}
}

func TestSessionOkOfNumbers(t *testing.T) {
	for _, waiting := range []bool{false, true} {
		checkChanged(t, waiting, true, func(s *impl.Session) {})
		for _, x := range []int64{math.MinInt64, -1, 0, 1, 2, 3, 4, 5, 6, 99, 100, 101, 1 << 32, math.MaxInt64} {
			right := x <= 100 && (x >= 5 || x >= 3 && !waiting)
			checkChanged(t, waiting, right, func(s *impl.Session) { s.Room = x })
		}
		for _, x := range []int64{math.MinInt64, -1, 0, 1, 9, 10, 11, 12, 13, maxOffset, maxOffset + 1, math.MaxInt64} {
			right := x >= 0 && (x <= 10 || x <= 12 && !waiting)
			checkChanged(t, waiting, right, func(s *impl.Session) { s.Base = x })
			right = x <= maxOffset && (x >= 12 || x >= 10 && !waiting)
			checkChanged(t, waiting, right, func(s *impl.Session) { s.At = x })
		}
	}
	for _, x := range ringEdges() {
		right := x >= 0 && x <= maxOffset
		checkChanged(t, false, right, func(s *impl.Session) { s.Base, s.At = x, x })
	}
	checkChanged(t, false, false, func(s *impl.Session) { s.Base, s.At = 5, 4 })
	checkChanged(t, false, true, func(s *impl.Session) { s.Base, s.At = 0, maxOffset })
	checkWrongSession(t, impl.Session{}) // there is no room
	checkRightSession(t, impl.Session{Room: 1}, "abc")
	checkRightSession(t, impl.Session{Room: 100, Dict: []impl.Pattern{}, Cols: [][]int64{}, Queue: []impl.Rec{}}, "abc")
	checkWrongSession(t, impl.Session{Room: 1, Queue: []impl.Rec{{}}})
	checkWrongSession(t, impl.Session{Room: 1, Cols: [][]int64{{0}}})
}

func TestSessionOkOfDict(t *testing.T) {
	for _, waiting := range []bool{false, true} {
		for at := range 3 {
			for _, p := range wrongPatterns() {
				checkChanged(t, waiting, false, func(s *impl.Session) { s.Dict[at] = p })
				checkChanged(t, waiting, false, func(s *impl.Session) { // a column as long as the text is
					s.Dict[at] = p
					s.Cols[at] = make([]int64, len(p.Text)+1)
				})
			}
			checkChanged(t, waiting, false, func(s *impl.Session) { s.Dict = slices.Delete(s.Dict, at, at+1) })
			checkChanged(t, waiting, false, func(s *impl.Session) { s.Dict = slices.Insert(s.Dict, at, s.Dict[at]) })
			checkChanged(t, waiting, true, func(s *impl.Session) { s.Dict[at].Fold = true })
			checkChanged(t, waiting, true, func(s *impl.Session) { s.Dict[at].K = 4 })
			checkChanged(t, waiting, at == 1 || !waiting, func(s *impl.Session) { s.Dict[at].K = 0 })
			checkChanged(t, waiting, false, func(s *impl.Session) { s.Dict[at].Text += "a" })
			checkChanged(t, waiting, false, func(s *impl.Session) { s.Dict[at].K = -1 })
			checkChanged(t, waiting, false, func(s *impl.Session) { s.Dict[at].K = 5 })
		}
		checkChanged(t, waiting, false, func(s *impl.Session) { s.Dict = nil })
		checkChanged(t, waiting, !waiting, func(s *impl.Session) { s.Dict, s.Cols = nil, nil })
	}
	for n := range 12 {
		s := impl.Session{Dict: manyPatterns(n), Room: 50}
		for _, p := range s.Dict {
			s.Cols = append(s.Cols, make([]int64, len(p.Text)+1))
		}
		if n <= 8 {
			checkRightSession(t, s, "p1p2p")
		} else {
			checkWrongSession(t, s)
		}
	}
}

func TestSessionOkOfCols(t *testing.T) {
	for _, waiting := range []bool{false, true} {
		checkChanged(t, waiting, false, func(s *impl.Session) { s.Cols = nil })
		for at := range 3 {
			checkChanged(t, waiting, false, func(s *impl.Session) { s.Cols = slices.Delete(s.Cols, at, at+1) })
			checkChanged(t, waiting, false, func(s *impl.Session) { s.Cols = slices.Insert(s.Cols, at, s.Cols[at]) })
			checkChanged(t, waiting, false, func(s *impl.Session) { s.Cols[at] = nil })
			checkChanged(t, waiting, false, func(s *impl.Session) { s.Cols[at] = s.Cols[at][:len(s.Cols[at])-1] })
			checkChanged(t, waiting, false, func(s *impl.Session) { s.Cols[at] = append(s.Cols[at], 0) })
			checkChanged(t, waiting, false, func(s *impl.Session) { s.Cols[at][0] = 1 })
			checkChanged(t, waiting, false, func(s *impl.Session) { s.Cols[at][0] = -1 })
			for place := 1; place <= len(rightSession().Dict[at].Text); place++ {
				for _, wrong := range []int64{math.MinInt64, -1, 3, math.MaxInt64} {
					checkChanged(t, waiting, false, func(s *impl.Session) { s.Cols[at][place] = wrong })
				}
			}
		}
		checkChanged(t, waiting, false, func(s *impl.Session) { s.Cols[0] = []int64{0, 2, 2} })
		checkChanged(t, waiting, false, func(s *impl.Session) { s.Cols[0] = []int64{0, 0, 2} })
		checkChanged(t, waiting, false, func(s *impl.Session) { s.Cols[2] = []int64{0, 2} })
		checkChanged(t, waiting, false, func(s *impl.Session) { s.Cols[0], s.Cols[1] = s.Cols[1], s.Cols[0] })
		checkChanged(t, waiting, false, func(s *impl.Session) { s.Cols = append(s.Cols, nil) })
		for _, col := range rightColumns(2) { // also those to which no text leads
			checkChanged(t, waiting, true, func(s *impl.Session) { s.Cols[0] = col })
		}
	}
}

func TestSessionOkOfQueue(t *testing.T) {
	count := len(rightSession().Queue)
	for at := range count {
		checkChanged(t, true, true, func(s *impl.Session) { s.Queue = slices.Delete(s.Queue, at, at+1) })
		for other := range at {
			checkChanged(t, true, false, func(s *impl.Session) { s.Queue[at], s.Queue[other] = s.Queue[other], s.Queue[at] })
		}
		for _, dist := range []int64{0, 1} { // two alike in both End and Pattern, with room for them
			checkChanged(t, true, false, func(s *impl.Session) {
				twice := s.Queue[at]
				twice.Dist = min(dist, s.Dict[twice.Pattern].K)
				s.Room, s.Queue = 50, slices.Insert(s.Queue, at, twice)
			})
			checkChanged(t, true, false, func(s *impl.Session) {
				twice := s.Queue[at]
				twice.Dist = min(dist, s.Dict[twice.Pattern].K)
				s.Room, s.Queue = 50, slices.Insert(s.Queue, at+1, twice)
			})
		}
		for _, x := range []int64{math.MinInt64, -1, 3, 4, 8, 1 << 32, math.MaxInt64} {
			checkChanged(t, true, false, func(s *impl.Session) { s.Queue[at].Pattern = x })
			checkChanged(t, false, false, func(s *impl.Session) { s.Queue = []impl.Rec{{Pattern: x, End: 11}} })
		}
		for _, x := range []int64{math.MinInt64, -1, 0, 9, 13, maxOffset, math.MaxInt64} {
			checkChanged(t, true, false, func(s *impl.Session) { s.Queue[at].End = x })
			checkChanged(t, false, false, func(s *impl.Session) { s.Queue = []impl.Rec{{Pattern: 2, End: x}} })
		}
		for _, x := range []int64{math.MinInt64, -1, 0, 1, 2, 3, math.MaxInt64} {
			checkChanged(t, true, x == 0 || x == 1 && at < 4, func(s *impl.Session) { s.Queue[at].Dist = x })
		}
	}
	checkChanged(t, true, false, func(s *impl.Session) { s.Queue = append(s.Queue, impl.Rec{Pattern: 2, End: 12}) }) // one more than there is room for
	checkChanged(t, true, true, func(s *impl.Session) { s.Room, s.Queue = 6, append(s.Queue, impl.Rec{Pattern: 2, End: 12}) })
	checkChanged(t, true, true, func(s *impl.Session) { s.Queue = []impl.Rec{} })
	checkChanged(t, false, true, func(s *impl.Session) { s.Queue = []impl.Rec{{End: 11}, {Pattern: 1, End: 11}, {Pattern: 2, End: 11}} })
	checkChanged(t, false, true, func(s *impl.Session) {
		s.Queue = []impl.Rec{{Pattern: 1, End: 10}, {Pattern: 1, End: 11}, {Pattern: 1, End: 12}}
	})
	checkChanged(t, false, true, func(s *impl.Session) {
		s.Queue = []impl.Rec{{Pattern: 2, End: 10}, {Pattern: 1, End: 11}, {Pattern: 0, End: 12}}
	})
	checkChanged(t, false, false, func(s *impl.Session) { s.Queue = []impl.Rec{{Pattern: 0, End: 11}, {Pattern: 1, End: 10}} })
	checkChanged(t, false, false, func(s *impl.Session) { s.Queue = make([]impl.Rec, 1000) })
}

// TestSessionOkOfFullQueues: MaxQueue records may wait, and no more.
func TestSessionOkOfFullQueues(t *testing.T) {
	for _, count := range []int64{99, 100, 101, 200} {
		s := impl.Session{Dict: []impl.Pattern{{Text: "a", K: 1}}, Room: 100, At: 500, Cols: [][]int64{{0, 1}}}
		for end := range count {
			s.Queue = append(s.Queue, impl.Rec{End: end, Dist: 1})
		}
		if count <= 100 {
			checkRightSession(t, s, "xa")
		} else {
			checkWrongSession(t, s)
			s.Room = count
			checkWrongSession(t, s)
		}
	}
}

// someSession is right; no text need lead to its columns and records.
func someSession(r *rand.Rand) impl.Session {
	s := impl.Session{Dict: someDict(r), Closed: r.IntN(5) == 0}
	s.Room = max(1, int64(len(s.Dict)))
	s.Room += r.Int64N(101-s.Room) * r.Int64N(2)
	s.Base = []int64{0, r.Int64N(50), maxOffset - 40, maxOffset}[r.IntN(4)]
	s.At = min(s.Base+r.Int64N(40), maxOffset)
	for _, p := range s.Dict {
		col := []int64{0}
		for range p.Text {
			col = append(col, max(0, col[len(col)-1]+r.Int64N(3)-1))
		}
		s.Cols = append(s.Cols, col)
	}
	dense := 1 + r.IntN(5)
	for end := s.Base; end <= s.At; end++ {
		for pattern, p := range s.Dict {
			if r.IntN(dense) == 0 && int64(len(s.Queue)) < s.Room {
				s.Queue = append(s.Queue, impl.Rec{Pattern: int64(pattern), End: end, Dist: r.Int64N(p.K + 1)})
			}
		}
	}
	return s
}

func TestSomeSessions(t *testing.T) {
	r := rand.New(rand.NewPCG(11, 1))
	codes := map[int64]int{}
	for range 3000 {
		s := someSession(r)
		chunk := someText(r, "abABc", r.IntN(60))
		checkRightSession(t, s, chunk)
		_, _, code := impl.Feed(s, chunk)
		codes[code]++
	}
	for _, code := range []int64{impl.SnOk, impl.SnQueue, impl.SnOffset, impl.SnClosed} {
		if codes[code] < 100 {
			t.Errorf("the code %d came %d times", code, codes[code])
		}
	}
}

// wantTold is what a session has to tell of a text, in all.
func wantTold(d []impl.Pattern, text string, base int64) []impl.Rec {
	recs := impl.ScanAll(d, text)
	for i := range recs {
		recs[i].End += base
	}
	return recs
}

// told feeds all chunks, each until it is taken, and drains so many at a time:
// when a chunk is stopped, behind each one, too, or else in the end.
func told(t *testing.T, s impl.Session, chunks []string, most int64, always bool) []impl.Rec {
	t.Helper()
	var recs, l []impl.Rec
	for _, chunk := range chunks {
		for {
			next, taken, code := impl.Feed(s, chunk)
			s, chunk = next, chunk[taken:]
			if code == impl.SnOk && chunk == "" {
				break
			}
			if code != impl.SnQueue || chunk == "" || len(s.Queue) == 0 {
				t.Fatalf("fed with room for %d: %d, %q is left", s.Room, code, chunk)
			}
			s, l = impl.Drain(s, most)
			recs = append(recs, l...)
		}
		if always {
			s, l = impl.Drain(s, most)
			recs = append(recs, l...)
		}
	}
	if wantAt := s.Base + int64(len(strings.Join(chunks, ""))); s.At != wantAt || !impl.SessionOk(s) {
		t.Fatalf("all is taken, and At is %d, not %d: %+v", s.At, wantAt, s)
	}
	s, _ = impl.Close(s)
	for len(s.Queue) > 0 {
		s, l = impl.Drain(s, most)
		recs = append(recs, l...)
	}
	return recs
}

// chunksOf gives the text whole, byte by byte, and in uneven chunks, some of
// which are empty.
func chunksOf(r *rand.Rand, text string) [][]string {
	var uneven []string
	for rest := text; rest != ""; {
		length := min(len(rest), r.IntN(4)*r.IntN(12))
		uneven, rest = append(uneven, rest[:length]), rest[length:]
	}
	return [][]string{{text}, strings.Split(text, ""), append(uneven, "")}
}

// checkTold looks that a session tells just what a scan of the text tells,
// however it is fed and drained.
func checkTold(t *testing.T, r *rand.Rand, d []impl.Pattern, text string, base int64) int {
	t.Helper()
	want := wantTold(d, text, base)
	least, all := max(1, int64(len(d))), int64(len(want))
	for _, chunks := range chunksOf(r, text) {
		for _, room := range []int64{least, least + r.Int64N(101-least), impl.MaxQueue} {
			for _, most := range []int64{1, 1 + r.Int64N(room), math.MaxInt64} {
				for _, always := range []bool{false, true} {
					s := checkOpen(t, d, room, base)
					if got := told(t, s, chunks, most, always); !slices.Equal(got, want) {
						t.Fatalf("%+v in %q from %d on, in %d chunks, with room for %d, drained %d at most: %+v, want %+v", d, text, base, len(chunks), room, most, got, want)
					}
				}
			}
		}
		if all <= impl.MaxQueue {
			checkFits(t, checkOpen(t, d, max(least, all), base), chunks, want)
		}
	}
	return len(want)
}

// checkFits looks that a session with room for all has all of it in the end,
// without having been drained.
func checkFits(t *testing.T, s impl.Session, chunks []string, want []impl.Rec) {
	t.Helper()
	for _, chunk := range chunks {
		next, taken, code := impl.Feed(s, chunk)
		if code != impl.SnOk || taken != int64(len(chunk)) {
			t.Fatalf("Feed(%+v, %q) takes %d: %d", s, chunk, taken, code)
		}
		s = next
	}
	if !slices.Equal(s.Queue, want) {
		t.Fatalf("%+v wait, want %+v", s.Queue, want)
	}
}

func TestSessionTellsWhatAScanTells(t *testing.T) {
	r := rand.New(rand.NewPCG(11, 2))
	dicts := edgeDicts()
	for range 20 {
		dicts = append(dicts, someDict(r))
	}
	found := 0
	for _, d := range dicts {
		texts := []string{"", strings.Repeat(".", 200), someText(r, "abABc", 200), someText(r, "aAb", 30)}
		for _, p := range d[:min(len(d), 1)] {
			texts = append(texts, textsAround(r, p)[:3]...)
		}
		for i, text := range texts {
			text = text[:min(len(text), impl.MaxText)]
			base := []int64{0, 1, 777, maxOffset - int64(len(text))}[i%4]
			found += checkTold(t, r, d, text, base)
		}
	}
	if found < 10000 {
		t.Errorf("%d were found", found)
	}
}

func TestSessionOfEachShortText(t *testing.T) {
	r := rand.New(rand.NewPCG(11, 3))
	parts := textsOf("aB", 3)[1:]
	for i, text := range textsOf("aAb", 4) {
		d := []impl.Pattern{{Text: parts[i%14], K: int64(i % 4)}, {Text: parts[(i*3+1)%14], K: 1, Fold: true}, {Text: "ba"}}
		checkTold(t, r, d, text, int64(i%3)*100)
	}
}

// TestSessionOfALongText: a text that is too long for a scan is told as the
// scans of all its pieces tell, which are longer than what a pattern is found
// in.
func TestSessionOfALongText(t *testing.T) {
	const reach = impl.MaxPat + impl.MaxK
	r := rand.New(rand.NewPCG(11, 4))
	for range 20 {
		d := someDict(r)
		text := someText(r, "abABc", 1500)
		var want []impl.Rec
		for end := range len(text) + 1 {
			from := max(0, end-reach)
			for _, rec := range wantTold(d, text[from:end], int64(from+5)) {
				if rec.End == int64(end+5) {
					want = append(want, rec)
				}
			}
		}
		for _, chunks := range chunksOf(r, text) {
			for _, room := range []int64{max(1, int64(len(d))), impl.MaxQueue} {
				s, _ := impl.Open(d, room, 5)
				if got := told(t, s, chunks, room, false); !slices.Equal(got, want) {
					t.Fatalf("%+v in %q: %d are told, want %d", d, text, len(got), len(want))
				}
			}
		}
	}
}

// TestFeedInTwoPieces: a chunk that is cut at any place leads to the same
// session as the whole one, and stops at the same byte.
func TestFeedInTwoPieces(t *testing.T) {
	r := rand.New(rand.NewPCG(11, 5))
	codes := map[int64]int{}
	for range 1000 {
		s := someSession(r)
		chunk := someText(r, "abABc", r.IntN(40))
		want, wantTaken, wantCode := checkFeed(t, s, chunk)
		codes[wantCode]++
		for cut := range len(chunk) + 1 {
			got, taken, code := impl.Feed(s, chunk[:cut])
			if code == impl.SnOk {
				var more int64
				got, more, code = impl.Feed(got, chunk[cut:])
				taken += more
			}
			if !sameSession(got, want) || taken != wantTaken || code != wantCode {
				t.Fatalf("Feed(%+v, %q), cut at %d: %+v, %d, %d, whole: %+v, %d, %d", s, chunk, cut, got, taken, code, want, wantTaken, wantCode)
			}
		}
	}
	if codes[impl.SnOk] < 50 || codes[impl.SnQueue] < 50 || codes[impl.SnOffset] < 50 {
		t.Errorf("the codes came so often: %v", codes)
	}
}

// TestRecordsOfOneByte: they are told together or not at all.
func TestRecordsOfOneByte(t *testing.T) {
	for count := 1; count <= 8; count++ {
		d := slices.Repeat([]impl.Pattern{{Text: "ab"}}, count)
		d[0] = impl.Pattern{Text: "a"}
		for room := int64(count); room <= int64(3*count); room++ {
			s := checkOpen(t, d, room, 0)
			for range room { // a waits as often as there is room
				waiting := int64(len(s.Queue))
				fed, taken, code := checkFeed(t, s, "abz")
				behind := int64(count - 1)
				switch {
				case waiting == room:
					if !sameSession(fed, s) || taken != 0 || code != impl.SnQueue {
						t.Errorf("%d wait, with room for %d: %d taken, %d", waiting, room, taken, code)
					}
				case waiting+1+behind > room:
					if taken != 1 || code != impl.SnQueue || fed.At != s.At+1 || int64(len(fed.Queue)) != waiting+1 {
						t.Errorf("%d wait, with room for %d, and %d are found behind a: %d taken, %d", waiting, room, behind, taken, code)
					}
					again, taken, code := checkFeed(t, fed, "bz")
					if !sameSession(again, fed) || taken != 0 || code != impl.SnQueue {
						t.Errorf("fed again: %+v, %d, %d", again, taken, code)
					}
					drained, _ := checkDrain(t, fed, waiting+1+behind-room)
					if full, taken, code := checkFeed(t, drained, "bz"); taken != 2 || code != impl.SnOk || int64(len(full.Queue)) != room {
						t.Errorf("drained and fed again: %+v, %d, %d", full, taken, code)
					}
				default:
					if taken != 3 || code != impl.SnOk || int64(len(fed.Queue)) != waiting+1+behind {
						t.Errorf("%d wait, with room for %d: %d taken, %d", waiting, room, taken, code)
					}
				}
				s, _, _ = checkFeed(t, s, "a")
			}
		}
	}
}

// TestFullSessionTakesWhatIsNotFound: no room is needed for what is not there.
func TestFullSessionTakesWhatIsNotFound(t *testing.T) {
	s := checkOpen(t, []impl.Pattern{{Text: "a"}}, 1, 0)
	s, _, _ = checkFeed(t, s, "a")
	s, taken, code := checkFeed(t, s, "zzzza")
	if taken != 4 || code != impl.SnQueue || s.At != 5 || len(s.Queue) != 1 {
		t.Errorf("a full session is fed: %+v, %d, %d", s, taken, code)
	}
}

func TestFeedAtTheLastPlace(t *testing.T) {
	for _, d := range [][]impl.Pattern{nil, {{Text: "a"}}, {{Text: "ab", K: 1}, {Text: "x", K: 1}}} {
		for left := range int64(4) {
			s := checkOpen(t, d, 50, maxOffset-left)
			for length := range int64(6) {
				chunk := "ababab"[:length]
				got, taken, code := checkFeed(t, s, chunk)
				want := int64(impl.SnOk)
				if length > left {
					want = impl.SnOffset
				}
				if taken != min(length, left) || code != want || got.At != maxOffset-left+taken {
					t.Errorf("%d bytes fed where %d fit: %d taken, %d", length, left, taken, code)
				}
			}
		}
	}
}

// TestBothStopsAtOnce: the place is asked ahead of the room.
func TestBothStopsAtOnce(t *testing.T) {
	d := []impl.Pattern{{Text: "a"}, {Text: "x", K: 1}}
	full := impl.Session{
		Dict: d, Room: 2, Base: maxOffset - 1, At: maxOffset,
		Cols:  [][]int64{{0, 1}, {0, 1}},
		Queue: []impl.Rec{{Pattern: 1, End: maxOffset - 1, Dist: 1}, {Pattern: 1, End: maxOffset, Dist: 1}},
	}
	for _, chunk := range []string{"a", "z", "aaa"} {
		if got, taken, code := checkFeed(t, full, chunk); code != impl.SnOffset || taken != 0 || !sameSession(got, full) {
			t.Errorf("a full session at the last place is fed: %+v, %d, %d", got, taken, code)
		}
	}
	ahead := cloneSession(full)
	ahead.At, ahead.Base = maxOffset-1, maxOffset-2
	ahead.Queue = []impl.Rec{{Pattern: 1, End: maxOffset - 2, Dist: 1}, {Pattern: 1, End: maxOffset - 1, Dist: 1}}
	if got, taken, code := checkFeed(t, ahead, "a"); code != impl.SnQueue || taken != 0 || !sameSession(got, ahead) {
		t.Errorf("a full session ahead of the last place is fed: %+v, %d, %d", got, taken, code)
	}
	ahead, _ = checkDrain(t, ahead, 2)
	if got, taken, code := checkFeed(t, ahead, "aa"); code != impl.SnOffset || taken != 1 || len(got.Queue) != 2 {
		t.Errorf("fed up to the last place, where there is no room either: %+v, %d, %d", got, taken, code)
	}
}

func TestFeedOfTheEmptyChunk(t *testing.T) {
	open := rightSession()
	open.Queue = open.Queue[:2]
	last := cloneSession(open)
	last.At = maxOffset
	both := rightSession()
	both.At = maxOffset
	for _, s := range []impl.Session{open, rightSession(), last, both, {Room: 1}} {
		if got, taken, code := impl.Feed(s, ""); !sameSession(got, s) || taken != 0 || code != impl.SnOk {
			t.Errorf("Feed(%+v) of nothing = %+v, %d, %d", s, got, taken, code)
		}
		s.Closed = true
		if got, taken, code := impl.Feed(s, ""); !sameSession(got, s) || taken != 0 || code != impl.SnClosed {
			t.Errorf("Feed(%+v) of nothing = %+v, %d, %d", s, got, taken, code)
		}
	}
}

// TestFeedOfClosedSessions: that it is closed is told whatever else would stop
// the chunk.
func TestFeedOfClosedSessions(t *testing.T) {
	last := rightSession()
	last.At = maxOffset
	for _, s := range []impl.Session{rightSession(), last, {Room: 1}, {Room: 1, At: maxOffset}} {
		s.Closed = true
		for _, chunk := range []string{"", "a", "z", strings.Repeat("ab", 500)} {
			if got, taken, code := checkFeed(t, s, chunk); !sameSession(got, s) || taken != 0 || code != impl.SnClosed {
				t.Errorf("Feed(%+v, %q) = %+v, %d, %d", s, chunk, got, taken, code)
			}
		}
	}
}

func TestFeedOfAllPlaces(t *testing.T) {
	chunk := strings.Repeat(".", int(maxOffset)+5)
	d := []impl.Pattern{{Text: "aBcdefghijklmnopqrst", K: 4, Fold: true}, {Text: "b"}}
	s, taken, code := impl.Feed(checkOpen(t, d, 2, 0), chunk[:maxOffset])
	if taken != maxOffset || code != impl.SnOk || s.At != maxOffset || len(s.Queue) != 0 || !impl.SessionOk(s) {
		t.Errorf("as many bytes as there are places: %+v, %d, %d", s, taken, code)
	}
	s, taken, code = impl.Feed(checkOpen(t, d, 2, 0), chunk)
	if taken != maxOffset || code != impl.SnOffset || s.At != maxOffset {
		t.Errorf("more bytes than there are places: %+v, %d, %d", s, taken, code)
	}
}

func TestFeedOfEachByte(t *testing.T) {
	all := allBytes()
	for b := range 256 {
		for _, fold := range []bool{false, true} {
			d := []impl.Pattern{{Text: all[b : b+1], Fold: fold}}
			s := checkOpen(t, d, impl.MaxQueue, 9)
			fed, _, code := checkFeed(t, s, all)
			if want := wantTold(d, all[:200], 9); code != impl.SnOk || !slices.Equal(fed.Queue[:len(want)], want) {
				t.Errorf("%+v in all bytes: %+v, %d", d, fed.Queue, code)
			}
		}
	}
}

func TestDrain(t *testing.T) {
	for _, closed := range []bool{false, true} {
		s := rightSession()
		s.Closed = closed
		for _, most := range []int64{math.MinInt64, -5, -1, 0, 1, 2, 3, 4, 5, 6, 100, 1 << 32, math.MaxInt64} {
			got, recs := checkDrain(t, s, most)
			count := int(max(0, min(most, 5)))
			if !slices.Equal(recs, rightSession().Queue[:count]) || !slices.Equal(got.Queue, rightSession().Queue[count:]) || got.Closed != closed {
				t.Errorf("Drain of %d = %+v, %+v", most, got, recs)
			}
		}
		empty, _ := checkDrain(t, s, 5)
		for _, most := range []int64{-1, 0, 1, math.MaxInt64} {
			if got, recs := checkDrain(t, empty, most); len(recs) != 0 || !sameSession(got, empty) {
				t.Errorf("Drain of an empty queue = %+v, %+v", got, recs)
			}
		}
	}
}

func TestCloseTwice(t *testing.T) {
	s := rightSession()
	once, code := impl.Close(s)
	want := rightSession()
	want.Closed = true
	if !sameSession(once, want) || code != impl.SnOk {
		t.Errorf("closed: %+v, %d", once, code)
	}
	twice, code := impl.Close(once)
	if !sameSession(twice, want) || code != impl.SnClosed {
		t.Errorf("closed twice: %+v, %d", twice, code)
	}
}

func TestReset(t *testing.T) {
	always := rightSession()
	always.Dict[0].K, always.Dict[1].K = 2, 1
	for _, s := range []impl.Session{rightSession(), always, {Room: 1}, {Room: 100, Base: 5, At: 77}} {
		for _, closed := range []bool{false, true} {
			s.Closed = closed
			for _, base := range ringEdges() {
				got := checkReset(t, s, base)
				if base < 0 || base > maxOffset {
					if !sameSession(got, s) {
						t.Errorf("reset to %d: %+v", base, got)
					}
				} else if got.Closed || got.At != base || got.Base != base || got.Room != s.Room {
					t.Errorf("reset to %d: %+v", base, got)
				}
			}
		}
	}
	got := checkReset(t, always, 3)
	if want := []impl.Rec{{End: 3, Dist: 2}, {Pattern: 1, End: 3, Dist: 1}, {Pattern: 2, End: 3, Dist: 1}}; !slices.Equal(got.Queue, want) {
		t.Errorf("reset, %+v wait", got.Queue)
	}
}

// TestResetSessionTellsAnew: nothing of what was fed ahead of it is told.
func TestResetSessionTellsAnew(t *testing.T) {
	d := []impl.Pattern{{Text: "ab"}, {Text: "x", K: 1}}
	s := checkOpen(t, d, 100, 0)
	s, _, _ = checkFeed(t, s, "abxa")
	s = checkReset(t, checkClose(t, s), 50)
	if got := told(t, s, []string{"bab"}, 100, false); !slices.Equal(got, wantTold(d, "bab", 50)) {
		t.Errorf("reset and fed: %+v", got)
	}
}

// heldSession gives the session with spare room behind each list that is
// written full.
func heldSession(s impl.Session) impl.Session {
	s.Dict, s.Queue = withRoom(s.Dict, impl.Pattern{Text: "behind"}), withRoom(s.Queue, impl.Rec{Pattern: 77})
	cols := s.Cols
	s.Cols = nil
	for _, col := range cols {
		s.Cols = append(s.Cols, roomBehind(col))
	}
	s.Cols = append(s.Cols, []int64{77})[:len(cols)]
	return s
}

func checkHeld(t *testing.T, s impl.Session, want impl.Session) {
	t.Helper()
	checkRoom(t, s.Dict, want.Dict, impl.Pattern{Text: "behind"})
	checkRoom(t, s.Queue, want.Queue, impl.Rec{Pattern: 77})
	for i, col := range s.Cols {
		checkKept(t, col, want.Cols[i])
	}
	behind := s.Cols[:len(s.Cols)+1][len(s.Cols)]
	if !sameSession(s, want) || !slices.Equal(behind, []int64{77}) {
		t.Errorf("%+v has become %+v", want, s)
	}
}

// spoilSession writes all lists of the session full, with the room behind them.
func spoilSession(s impl.Session) {
	for _, col := range s.Cols {
		spoil(col)
	}
	spoilCols(s)
	spoilDict(s)
	spoilRecs(s.Queue)
}

func spoilRecs(l []impl.Rec) {
	l = l[:cap(l)]
	for i := range l {
		l[i] = impl.Rec{Pattern: 99, End: 99, Dist: 99}
	}
}

func spoilDict(s impl.Session) {
	d := s.Dict[:cap(s.Dict)]
	for i := range d {
		d[i] = impl.Pattern{Text: "spoilt", K: 99}
	}
}

func spoilCols(s impl.Session) {
	cols := s.Cols[:cap(s.Cols)]
	for i := range cols {
		cols[i] = []int64{99}
	}
}

// sessionAnswers calls each function that answers a session, in each way, and
// gives what it answers.
func sessionAnswers(s impl.Session, chunk string) []impl.Session {
	impl.SessionOk(s)
	open, _ := impl.Open(s.Dict, s.Room, s.Base)
	fed, _, _ := impl.Feed(s, chunk)
	same, _, _ := impl.Feed(s, "")
	none, _ := impl.Drain(s, 0)
	some, recs := impl.Drain(s, 2)
	all, more := impl.Drain(s, math.MaxInt64)
	closed, _ := impl.Close(s)
	reset, _ := impl.Reset(s, 3)
	kept, _ := impl.Reset(s, -1)
	first := impl.Session{Queue: recs}
	whole := impl.Session{Queue: more}
	return []impl.Session{open, fed, same, none, some, first, all, whole, closed, reset, kept}
}

// heldSessions are right, in each state: open, full, at the last place, empty
// and closed.
func heldSessions() []impl.Session {
	right := rightSession()
	room := rightSession()
	room.Room = 50
	last := rightSession()
	last.At = maxOffset
	empty := rightSession()
	empty.Queue = nil
	closed := rightSession()
	closed.Closed = true
	always := rightSession()
	always.Dict[0].K, always.Dict[1].K = 4, 4
	return []impl.Session{right, room, last, empty, closed, always, {Room: 1}}
}

func TestSessionsAreOnlyRead(t *testing.T) {
	for _, want := range heldSessions() {
		for _, chunk := range []string{"", "a", "zz", "abxabab"} {
			held := heldSession(want)
			first := sessionAnswers(held, chunk)
			again := sessionAnswers(held, chunk)
			checkHeld(t, held, want)
			for i := range first {
				if !sameSession(first[i], again[i]) {
					t.Errorf("the same call answers %+v, and then %+v", first[i], again[i])
				}
			}
			kept := make([]impl.Session, len(again))
			for i := range again {
				kept[i] = cloneSession(again[i])
			}
			for i := range first {
				spoilSession(first[i])
			}
			checkHeld(t, held, want)
			for i := range again {
				if !sameSession(again[i], kept[i]) {
					t.Errorf("two answers share their memory: %+v has become %+v", kept[i], again[i])
				}
			}
			spoilSession(held)
			for i := range again {
				if !sameSession(again[i], kept[i]) {
					t.Errorf("an answer shares its memory with its argument: %+v has become %+v", kept[i], again[i])
				}
			}
		}
	}
}

// TestListsOfASessionShareNoMemory writes one list of an answer full and looks
// at all the others.
func TestListsOfASessionShareNoMemory(t *testing.T) {
	for _, s := range heldSessions() {
		wants := sessionAnswers(s, "abxabab")
		for i, want := range wants {
			check := func(what string, change func(got *impl.Session)) {
				t.Helper()
				got := sessionAnswers(s, "abxabab")[i]
				change(&got)
				if !sameSession(got, want) {
					t.Errorf("%s shares its memory: %+v has become %+v", what, want, got)
				}
			}
			check("the dictionary", func(got *impl.Session) { spoilDict(*got); got.Dict = want.Dict })
			check("the queue", func(got *impl.Session) { spoilRecs(got.Queue); got.Queue = want.Queue })
			check("the columns' list", func(got *impl.Session) {
				cols := slices.Clone(got.Cols)
				spoilCols(*got)
				got.Cols = cols
			})
			for at := range want.Cols {
				check("a column", func(got *impl.Session) { spoil(got.Cols[at]); got.Cols[at] = want.Cols[at] })
			}
		}
	}
}

func TestDrainedRecordsShareNoMemory(t *testing.T) {
	for most := range int64(7) {
		s := rightSession()
		got, recs := checkDrain(t, s, most)
		spoilRecs(recs)
		if count := min(most, 5); !slices.Equal(got.Queue, rightSession().Queue[count:]) || !sameSession(s, rightSession()) {
			t.Errorf("drained of %d: %+v", most, got.Queue)
		}
		got, recs = checkDrain(t, s, most)
		spoilRecs(got.Queue)
		if count := min(most, 5); !slices.Equal(recs, rightSession().Queue[:count]) || !sameSession(s, rightSession()) {
			t.Errorf("drained %d: %+v", most, recs)
		}
	}
}

// TestSessionsKeepNoTexts: the patterns' texts, too, are new memory.
func TestSessionsKeepNoTexts(t *testing.T) {
	from := []byte("abbx")
	s := rightSession()
	s.Dict = []impl.Pattern{{Text: unsafe.String(&from[0], 2), K: 1}, {Text: unsafe.String(&from[2], 1)}, {Text: unsafe.String(&from[3], 1), K: 1}}
	answers := sessionAnswers(s, "abxabab")
	clear(from)
	for i, want := range sessionAnswers(rightSession(), "abxabab") {
		if !sameSession(answers[i], want) {
			t.Errorf("%+v has become %+v", want, answers[i])
		}
	}
}
