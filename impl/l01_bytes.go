package impl

const (
	MaxPat  = 20
	MaxText = 200
)

// foldTable is built anew for each call, since a table of 256 numbers is too
// large for the package level.
func foldTable() [256]byte {
	var table [256]byte
	for b := range table {
		table[b] = byte(b)
	}
	for b := 'A'; b <= 'Z'; b++ {
		table[b] += 'a' - 'A'
	}
	return table
}

func isByte(b int64) bool {
	return b >= 0 && b <= 255
}

// FoldOf gives the small letter of a capital one and every other byte as it
// is; -1 for what is no byte.
func FoldOf(b int64) int64 {
	if !isByte(b) {
		return -1
	}
	table := foldTable()
	return int64(table[b])
}

// Folded gives the text with each of its bytes folded.
func Folded(s string) string {
	table := foldTable()
	out := []byte(s)
	for i, b := range out {
		out[i] = table[b]
	}
	return string(out)
}

// Alike tells whether two texts are the same, or, with fold, the same when
// folded.
func Alike(a string, b string, fold bool) bool {
	if fold {
		return Folded(a) == Folded(b)
	}
	return a == b
}

// MaskOf gives the bits of the places of p whose byte is alike b.
func MaskOf(p string, fold bool, b int64) int64 {
	if len(p) > MaxPat || !isByte(b) {
		return 0
	}
	if fold {
		p, b = Folded(p), FoldOf(b)
	}
	var mask int64
	for i := range len(p) {
		if int64(p[i]) == b {
			mask |= 1 << i
		}
	}
	return mask
}
