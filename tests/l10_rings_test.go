package tests

import (
	"math"
	"math/rand/v2"
	"slices"
	"strings"
	"testing"
	"unsafe"

	"loop.example/g00568/impl"
)

const maxOffset = int64(1000000)

// ringEdges are places at the limits, and below and above them.
func ringEdges() []int64 {
	return []int64{math.MinInt64, math.MinInt64 + 1, -1 << 32, -200, -1, 0, 1, 2, 199, 200, 201, 256, maxOffset - 1, maxOffset, maxOffset + 1, 1 << 32, math.MaxInt64 - 1, math.MaxInt64}
}

// wrongRings are rings that are not right, most of them for one reason.
func wrongRings() []impl.Ring {
	var l []impl.Ring
	for _, x := range ringEdges() {
		if x < 0 || x > 200 {
			l = append(l, impl.Ring{Size: x}, impl.Ring{Size: x, End: 10}, impl.Ring{Size: x, End: 10, Data: "ab"})
		}
		if x < 0 || x > maxOffset {
			l = append(l, impl.Ring{End: x}, impl.Ring{Size: 10, End: x}, impl.Ring{Size: 10, End: x, Data: "ab"})
		}
	}
	return append(l,
		impl.Ring{Data: "a"}, impl.Ring{Size: 3, Data: "a"}, impl.Ring{End: 3, Data: "a"}, impl.Ring{Size: 1, End: 5, Data: "ab"}, impl.Ring{Size: 3, End: 1, Data: "ab"},
		impl.Ring{Size: 200, End: 199, Data: strings.Repeat("a", 200)}, impl.Ring{Size: 199, End: 200, Data: strings.Repeat("a", 200)},
		impl.Ring{Size: 200, End: maxOffset, Data: strings.Repeat("a", 201)}, impl.Ring{Size: 200, End: maxOffset, Data: strings.Repeat("a", 256+2)},
	)
}

// rightRings are rings with as many bytes as they may have, and with fewer.
func rightRings() []impl.Ring {
	var l []impl.Ring
	for _, size := range []int64{0, 1, 2, 5, 199, 200} {
		for _, end := range []int64{0, 1, 2, 4, 5, 6, 198, 199, 200, 201, 399, 400, 1000, maxOffset - 6, maxOffset - 1, maxOffset} {
			for _, bytes := range []int64{0, 1, 2, 4, 5, 100, 199, 200} {
				if bytes <= size && bytes <= end {
					l = append(l, impl.Ring{Size: size, End: end, Data: allBytes()[256-bytes:]})
				}
			}
		}
	}
	return l
}

func TestRingOk(t *testing.T) {
	for _, r := range rightRings() {
		if !impl.RingOk(r) {
			t.Errorf("RingOk(%+v) is false", r)
		}
	}
	for _, r := range wrongRings() {
		if impl.RingOk(r) {
			t.Errorf("RingOk(%+v) is true", r)
		}
	}
	for _, size := range ringEdges() {
		for _, end := range ringEdges() {
			for _, bytes := range []int64{0, 1, 2, 3, 199, 200, 201, 256, 1000} {
				want := size >= 0 && size <= 200 && end >= 0 && end <= maxOffset && bytes <= size && bytes <= end
				if got := impl.RingOk(impl.Ring{Size: size, End: end, Data: strings.Repeat("a", int(bytes))}); got != want {
					t.Errorf("RingOk of Size %d and End %d with %d bytes is %v", size, end, bytes, got)
				}
			}
		}
	}
}

func TestRingNew(t *testing.T) {
	for _, size := range ringEdges() {
		for _, base := range ringEdges() {
			want, wantOk := impl.Ring{Size: size, End: base}, true
			if size < 0 || size > 200 || base < 0 || base > maxOffset {
				want, wantOk = impl.Ring{}, false
			}
			got, ok := impl.RingNew(size, base)
			if got != want || ok != wantOk || ok && !impl.RingOk(got) {
				t.Errorf("RingNew(%d, %d) = %+v, %v, want %+v, %v", size, base, got, ok, want, wantOk)
			}
		}
	}
}

// wantPut keeps the last bytes of what stands in a row.
func wantPut(r impl.Ring, s string) impl.Ring {
	row := r.Data + s
	return impl.Ring{Size: r.Size, End: r.End + int64(len(s)), Data: row[max(0, len(row)-int(r.Size)):]}
}

func checkPut(t *testing.T, r impl.Ring, s string) impl.Ring {
	t.Helper()
	got, ok := impl.RingPut(r, s)
	want, wantOk := wantPut(r, s), true
	if want.End > maxOffset {
		want, wantOk = impl.Ring{}, false
	}
	if got != want || ok != wantOk || ok && !impl.RingOk(got) {
		t.Fatalf("RingPut(%+v, %d bytes) = %+v, %v, want %+v, %v", r, len(s), got, ok, want, wantOk)
	}
	return got
}

func TestRingPut(t *testing.T) {
	for _, c := range []struct {
		r    impl.Ring
		s    string
		want impl.Ring
	}{
		{impl.Ring{Size: 4, End: 10}, "", impl.Ring{Size: 4, End: 10}},
		{impl.Ring{Size: 4, End: 10}, "abc", impl.Ring{Size: 4, End: 13, Data: "abc"}},
		{impl.Ring{Size: 4, End: 13, Data: "abc"}, "def", impl.Ring{Size: 4, End: 16, Data: "cdef"}},
		{impl.Ring{Size: 4, End: 16, Data: "cdef"}, "", impl.Ring{Size: 4, End: 16, Data: "cdef"}},
		{impl.Ring{Size: 4, End: 16, Data: "cdef"}, "ghij", impl.Ring{Size: 4, End: 20, Data: "ghij"}},
		{impl.Ring{Size: 4, End: 16, Data: "cdef"}, "ghijk", impl.Ring{Size: 4, End: 21, Data: "hijk"}},
		{impl.Ring{Size: 4, End: 16, Data: "f"}, "g", impl.Ring{Size: 4, End: 17, Data: "fg"}}, // fewer than there is room for
		{impl.Ring{Size: 200, End: 3, Data: "abc"}, "d", impl.Ring{Size: 200, End: 4, Data: "abcd"}},
		{impl.Ring{}, "ab", impl.Ring{End: 2}},
		{impl.Ring{Size: 1, End: 2, Data: "\x00"}, "\xff", impl.Ring{Size: 1, End: 3, Data: "\xff"}},
		{impl.Ring{Size: 3, End: maxOffset - 2}, "ab", impl.Ring{Size: 3, End: maxOffset, Data: "ab"}},
		{impl.Ring{Size: 3, End: maxOffset, Data: "ab"}, "", impl.Ring{Size: 3, End: maxOffset, Data: "ab"}},
	} {
		if got, ok := impl.RingPut(c.r, c.s); got != c.want || !ok {
			t.Errorf("RingPut(%+v, %q) = %+v, %v, want %+v", c.r, c.s, got, ok, c.want)
		}
	}
	for _, r := range rightRings() {
		for _, length := range []int64{0, 1, 2, 3, r.Size - 1, r.Size, r.Size + 1, 2*r.Size + 3, 256, 1000} {
			checkPut(t, r, strings.Repeat(allBytes(), 4)[:max(0, min(length, 1000))])
		}
	}
}

func TestRingPutAtItsEnd(t *testing.T) {
	for _, size := range []int64{0, 1, 3, 200} {
		for length := range int64(250) {
			s := strings.Repeat("abcdefg", 40)[:length]
			for _, base := range []int64{maxOffset - length, maxOffset - length + 1} {
				r, ok := impl.RingNew(size, base)
				if ok {
					checkPut(t, r, s)
				}
				if _, fits := impl.RingPut(r, s); ok && fits != (base == maxOffset-length) {
					t.Errorf("%d bytes put at %d: %v", length, base, fits)
				}
			}
		}
	}
	long := strings.Repeat("abcdefg", 200000)
	for _, r := range []impl.Ring{{Size: 200}, {Size: 3}, {}, {Size: 200, End: 300, Data: allBytes()[:200]}} {
		checkPut(t, r, long[:maxOffset-r.End])
		checkPut(t, r, long[:maxOffset-r.End+1])
		checkPut(t, r, long)
	}
}

func TestRingPutInPieces(t *testing.T) {
	r := rand.New(rand.NewPCG(10, 1))
	for _, start := range rightRings() {
		if start.End > 1000 {
			continue
		}
		for range 5 {
			whole := someText(r, allBytes(), r.IntN(700))
			ring := start
			for rest := whole; rest != ""; {
				piece := rest[:min(len(rest), r.IntN(150)*r.IntN(2)+r.IntN(3))]
				ring, rest = checkPut(t, ring, piece), rest[len(piece):]
			}
			if want := checkPut(t, start, whole); ring != want {
				t.Errorf("put in pieces behind %+v: %+v, at once: %+v", start, ring, want)
			}
		}
	}
}

func checkNoRingCut(t *testing.T, r impl.Ring, from int64, to int64) {
	t.Helper()
	if got, ok := impl.RingCut(r, from, to); got != "" || ok {
		t.Errorf("RingCut(%+v, %d, %d) = %q, %v", r, from, to, got, ok)
	}
}

func checkRingCut(t *testing.T, r impl.Ring, from int64, to int64, want string) {
	t.Helper()
	if got, ok := impl.RingCut(r, from, to); got != want || !ok {
		t.Errorf("RingCut(%+v, %d, %d) = %q, %v, want %q", r, from, to, got, ok, want)
	}
}

func TestRingCut(t *testing.T) {
	r := impl.Ring{Size: 4, End: 16, Data: "cdef"}
	checkRingCut(t, r, 12, 16, "cdef")
	checkRingCut(t, r, 13, 15, "de")
	checkRingCut(t, r, 12, 13, "c")
	checkRingCut(t, r, 15, 16, "f")
	for at := int64(12); at <= 16; at++ {
		checkRingCut(t, r, at, at, "")
	}
	for _, x := range [][2]int64{
		{11, 16}, {12, 17}, {11, 17}, {11, 13}, {15, 17}, {11, 12}, {16, 17}, // one byte more at an end
		{15, 14}, {16, 12}, {13, 12}, {17, 16}, {12, 11}, // from behind to
		{11, 11}, {17, 17}, {0, 0}, {5, 5}, // nothing, but not where the ring is
		{0, 4}, {0, 16}, {-1, 13}, {-1, -1}, {-4, 0}, {13, -1}, {math.MinInt64, math.MaxInt64}, {math.MaxInt64, math.MinInt64}, {math.MinInt64, 13}, {13, math.MaxInt64}, {math.MaxInt64, math.MaxInt64}, {math.MinInt64, math.MinInt64}, {12 + 1<<32, 13 + 1<<32},
	} {
		checkNoRingCut(t, r, x[0], x[1])
	}
	few := impl.Ring{Size: 200, End: 300, Data: "xyz"} // no bytes but these are there
	checkRingCut(t, few, 297, 300, "xyz")
	checkNoRingCut(t, few, 296, 300)
	first := impl.Ring{Size: 5, End: 3, Data: "abc"}
	checkRingCut(t, first, 0, 3, "abc")
	checkRingCut(t, first, 0, 0, "")
	checkNoRingCut(t, first, -1, 3)
	checkNoRingCut(t, first, -1, 0)
	checkNoRingCut(t, first, -1, -1)
	last := impl.Ring{Size: 5, End: maxOffset, Data: "abc"}
	checkRingCut(t, last, maxOffset-3, maxOffset, "abc")
	checkNoRingCut(t, last, maxOffset, maxOffset+1)
}

func TestRingCutWithoutBytes(t *testing.T) {
	for _, r := range []impl.Ring{{}, {Size: 4}, {Size: 4, End: 10}, {End: 10}, {Size: 200, End: maxOffset}} {
		checkRingCut(t, r, r.End, r.End, "")
		for _, x := range [][2]int64{{r.End - 1, r.End}, {r.End, r.End + 1}, {r.End - 1, r.End - 1}, {r.End + 1, r.End + 1}, {r.End + 1, r.End}, {r.End, r.End - 1}} {
			checkNoRingCut(t, r, x[0], x[1])
		}
	}
	r := checkPut(t, impl.Ring{End: 10}, "abc") // nothing is kept
	checkRingCut(t, r, 13, 13, "")
	checkNoRingCut(t, r, 12, 13)
}

// TestRingCutIsWhatWasPut keeps all that was put, and cuts it from place to
// place.
func TestRingCutIsWhatWasPut(t *testing.T) {
	r := rand.New(rand.NewPCG(10, 2))
	for _, size := range []int64{0, 1, 2, 3, 7, 199, 200} {
		for _, base := range []int64{0, 1, 5, 197, 200, 999, maxOffset - 600} {
			ring, _ := impl.RingNew(size, base)
			put := ""
			for range 12 {
				s := someText(r, allBytes(), r.IntN(3)*r.IntN(25))
				ring, put = checkPut(t, ring, s), put+s
				first := ring.End - min(size, int64(len(put)))
				for from := max(base, ring.End-210) - 2; from <= ring.End+2; from += int64(1 + r.IntN(3)) {
					for _, to := range []int64{from - 1, from, from + 1, from + 2, from + 50, ring.End - 1, ring.End, ring.End + 1} {
						if from >= first && from <= to && to <= ring.End {
							checkRingCut(t, ring, from, to, put[from-base:to-base])
						} else {
							checkNoRingCut(t, ring, from, to)
						}
					}
				}
			}
		}
	}
}

func TestRingsThatAreNotRight(t *testing.T) {
	for _, r := range wrongRings() {
		for _, s := range []string{"", "a", "abc", strings.Repeat("a", 300)} {
			if got, ok := impl.RingPut(r, s); got != (impl.Ring{}) || ok {
				t.Errorf("RingPut(%+v, %q) = %+v, %v", r, s, got, ok)
			}
		}
		for _, from := range []int64{r.End - 2, r.End - 1, r.End, 0} {
			for _, to := range []int64{r.End - 1, r.End, 0, 1} {
				checkNoRingCut(t, r, from, to)
			}
		}
	}
}

// TestRingsShareNoMemory: what is handed over lies in bytes that are looked at,
// and then written over.
func TestRingsShareNoMemory(t *testing.T) {
	room := []byte("abcdefghijklmnop")
	data, s := unsafe.String(&room[2], 4), unsafe.String(&room[8], 3)
	r := impl.Ring{Size: 5, End: 9, Data: data}
	var rings []impl.Ring
	var cuts []string
	for range 2 {
		for _, put := range []string{s, ""} {
			ring, ok := impl.RingPut(r, put)
			cut, fine := impl.RingCut(r, 6, 9)
			if !ok || !fine || !impl.RingOk(r) {
				t.Error("the ring is not right")
			}
			rings, cuts = append(rings, ring), append(cuts, cut)
		}
		small, _ := impl.RingPut(impl.Ring{Size: 2}, s)
		all, _ := impl.RingCut(r, 5, 9)
		rings, cuts = append(rings, small), append(cuts, all)
	}
	if string(room) != "abcdefghijklmnop" || r != (impl.Ring{Size: 5, End: 9, Data: "cdef"}) || s != "ijk" {
		t.Errorf("what was handed over has become %q", room)
	}
	clear(room)
	want := []impl.Ring{{Size: 5, End: 12, Data: "efijk"}, {Size: 5, End: 9, Data: "cdef"}, {Size: 2, End: 3, Data: "jk"}}
	if !slices.Equal(rings, append(want, want...)) {
		t.Errorf("the rings have become %+v", rings)
	}
	if !slices.Equal(cuts, []string{"def", "def", "cdef", "def", "def", "cdef"}) {
		t.Errorf("what was cut has become %q", cuts)
	}
}
