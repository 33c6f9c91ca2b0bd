package tests

import (
	"bytes"
	"math"
	"strings"
	"testing"

	"loop.example/g00568/impl"
)

const (
	capitals = "ABCDEFGHIJKLMNOPQRSTUVWXYZ"
	smalls   = "abcdefghijklmnopqrstuvwxyz"
)

// notBytes are numbers that are no byte, near and far.
func notBytes() []int64 {
	return []int64{-1, -2, -191, -256, 256, 257, 256 + 'A', 512 + 'a', 1 << 32, 1<<32 + 'A', math.MaxInt64, math.MinInt64, math.MinInt64 + 'A'}
}

// wantFold says it with lists of letters, not with what stands between A and Z.
func wantFold(b int64) int64 {
	if b < 0 || b > 255 {
		return -1
	}
	if i := bytes.IndexByte([]byte(capitals), byte(b)); i >= 0 {
		return int64(smalls[i])
	}
	return b
}

func allBytes() string {
	var out []byte
	for b := range 256 {
		out = append(out, byte(b))
	}
	return string(out)
}

func TestFoldOfEachByte(t *testing.T) {
	for b := int64(-600); b <= 600; b++ {
		if got, want := impl.FoldOf(b), wantFold(b); got != want {
			t.Errorf("FoldOf(%d) = %d, want %d", b, got, want)
		}
	}
}

func TestFoldOfNoByte(t *testing.T) {
	for _, b := range notBytes() {
		if got := impl.FoldOf(b); got != -1 {
			t.Errorf("FoldOf(%d) = %d, want -1", b, got)
		}
	}
}

func TestFoldedTwiceIsFoldedOnce(t *testing.T) {
	for b := int64(0); b <= 255; b++ {
		if once := impl.FoldOf(b); impl.FoldOf(once) != once {
			t.Errorf("FoldOf(FoldOf(%d)) = %d, want %d", b, impl.FoldOf(once), once)
		}
	}
	for _, s := range []string{"", "A", "aZ[@`{", allBytes(), strings.Repeat("Zz", 500)} {
		if once := impl.Folded(s); impl.Folded(once) != once {
			t.Errorf("Folded(%q) is not folded", once)
		}
	}
}

func TestFolded(t *testing.T) {
	for s, want := range map[string]string{
		"":                      "",
		capitals:                smalls,
		smalls:                  smalls,
		"@AZ[`az{":              "@az[`az{",
		"\x00\x7f\x80\xc1\xff":  "\x00\x7f\x80\xc1\xff",
		"\u00c4\u212aK":         "\u00c4\u212ak",
		strings.Repeat("Q", 21): strings.Repeat("q", 21),
	} {
		if got := impl.Folded(s); got != want {
			t.Errorf("Folded(%q) = %q, want %q", s, got, want)
		}
	}
	all := impl.Folded(allBytes())
	for b := range int64(256) {
		if int64(all[b]) != wantFold(b) {
			t.Errorf("byte %d is folded to %d, want %d", b, all[b], wantFold(b))
		}
	}
}

func TestAlikeEachPairOfBytes(t *testing.T) {
	all := allBytes()
	for a := range 256 {
		for b := range 256 {
			x, y := all[a:a+1], all[b:b+1]
			if impl.Alike(x, y, false) != (a == b) {
				t.Errorf("Alike(%q, %q, false) is wrong", x, y)
			}
			if impl.Alike(x, y, true) != (wantFold(int64(a)) == wantFold(int64(b))) {
				t.Errorf("Alike(%q, %q, true) is wrong", x, y)
			}
		}
	}
}

func TestAlike(t *testing.T) {
	for _, c := range []struct {
		a, b           string
		asItIs, folded bool
	}{
		{"", "", true, true},
		{"", "a", false, false},
		{"a", "ab", false, false},
		{"ab", "aba", false, false},
		{"ab", "AB", false, true},
		{"aB", "Ab", false, true},
		{"ab", "ab", true, true},
		{"ab", "ba", false, false},
		{"AB", "Ac", false, false},
		{"xAb", "yaB", false, false},
		{"[", "{", false, false},
		{"@", "`", false, false},
		{"\xc1", "\xe1", false, false},
		{"\x00", "", false, false},
		{"A\x00b", "a\x00B", false, true},
		{"k", "\u212a", false, false},
		{strings.Repeat("a", 300), strings.Repeat("A", 300), false, true},
		{strings.Repeat("a", 300), strings.Repeat("A", 299), false, false},
		{strings.Repeat("a", 300), strings.Repeat("a", 299) + "b", false, false},
	} {
		for _, fold := range []bool{false, true} {
			want := c.asItIs
			if fold {
				want = c.folded
			}
			if impl.Alike(c.a, c.b, fold) != want {
				t.Errorf("Alike(%q, %q, %v) is not %v", c.a, c.b, fold, want)
			}
			if impl.Alike(c.b, c.a, fold) != want {
				t.Errorf("Alike(%q, %q, %v) is not %v", c.b, c.a, fold, want)
			}
		}
	}
}

// wantMask adds up places, so that no bit can be set twice or by a wrong shift.
func wantMask(p string, fold bool, b int64) int64 {
	if len(p) > 20 || b < 0 || b > 255 {
		return 0
	}
	sum, place := int64(0), int64(1)
	for _, x := range []byte(p) {
		if int64(x) == b || fold && wantFold(int64(x)) == wantFold(b) {
			sum += place
		}
		place *= 2
	}
	return sum
}

func TestMaskOfEachByte(t *testing.T) {
	for _, p := range []string{
		"", "a", "A", "aBab", "AaAa", "@AZ[`az{", "\x00\x00", "\x7f\x80\xc1\xe1\xff",
		"aaaaaaaaaaaaaaaaaaaa", "AbcdefghijklmnopqrsA", "aaaaaaaaaaaaaaaaaaaaa", strings.Repeat("b", 64), strings.Repeat("b", 300),
	} {
		for b := int64(-300); b <= 600; b++ {
			for _, fold := range []bool{false, true} {
				if got, want := impl.MaskOf(p, fold, b), wantMask(p, fold, b); got != want {
					t.Errorf("MaskOf(%q, %v, %d) = %d, want %d", p, fold, b, got, want)
				}
			}
		}
	}
}

func TestMaskOfEdges(t *testing.T) {
	full := strings.Repeat("a", impl.MaxPat)
	for _, c := range []struct {
		p    string
		fold bool
		b    int64
		want int64
	}{
		{"aBab", false, 'a', 5},
		{"aBab", false, 'b', 8},
		{"aBab", false, 'B', 2},
		{"aBab", false, 'A', 0},
		{"aBab", true, 'A', 5},
		{"aBab", true, 'B', 10},
		{"aBab", true, 'b', 10},
		{"", true, 'a', 0},
		{full, false, 'a', 1<<20 - 1},
		{full, true, 'A', 1<<20 - 1},
		{full[1:] + "b", false, 'b', 1 << 19},
		{full + "a", false, 'a', 0},
		{full + "a", true, 'a', 0},
		{"{`", true, '[', 0},
		{"\xff", false, 255, 1},
		{"\x00", false, 0, 1},
		{"\xff", false, -1, 0},
		{"\x00", false, 256, 0},
	} {
		if got := impl.MaskOf(c.p, c.fold, c.b); got != c.want {
			t.Errorf("MaskOf(%q, %v, %d) = %d, want %d", c.p, c.fold, c.b, got, c.want)
		}
	}
	for _, b := range notBytes() {
		if impl.MaskOf(allBytes()[60:80], true, b) != 0 || impl.MaskOf(allBytes()[240:], false, b) != 0 {
			t.Errorf("MaskOf finds %d, which is no byte", b)
		}
	}
}

// TestMasksShareOut: each place has the bit of just one byte, folded or not.
func TestMasksShareOut(t *testing.T) {
	p := "aA@[\x00\xff\xc1zZzq`{ Ab\n\x7f\x80."
	if len(p) != impl.MaxPat {
		t.Fatal(len(p))
	}
	for _, fold := range []bool{false, true} {
		union, count := int64(0), 0
		for b := int64(0); b <= 255; b++ {
			if fold && wantFold(b) != b {
				continue
			}
			mask := impl.MaskOf(p, fold, b)
			if union&mask != 0 {
				t.Errorf("byte %d has a place of another one", b)
			}
			union |= mask
			for ; mask != 0; mask &= mask - 1 {
				count++
			}
		}
		if union != 1<<20-1 || count != 20 {
			t.Errorf("fold %v: the bytes have %x, %d places", fold, union, count)
		}
	}
}
