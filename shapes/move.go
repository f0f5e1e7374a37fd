package shapes

// The opcodes of what lays, takes and moves lanes.
const (
	Const      = vectors + 12
	Shuffle    = vectors + 13
	Swizzle    = vectors + 14
	splatFirst = vectors + 15 // of 8, 16, 32, 64 bits
	splatLast  = vectors + 18
)

// Splat tells the width of a splat; 0, if op is none.
func Splat(op int) int {
	if op < splatFirst || op > splatLast {
		return 0
	}
	return 8 << (op - splatFirst)
}

// Extract tells the width of the lane that op takes out, and whether with its
// sign; 0, if op takes none.
func Extract(op int) (int, bool) {
	switch op {
	case vectors + 21:
		return 8, true
	case vectors + 22:
		return 8, false
	case vectors + 24:
		return 16, true
	case vectors + 25:
		return 16, false
	case vectors + 27:
		return 32, false
	case vectors + 29:
		return 64, false
	}
	return 0, false
}

// Replace tells the width of the lane that op puts in; 0, if it puts none.
func Replace(op int) int {
	switch op {
	case vectors + 23:
		return 8
	case vectors + 26:
		return 16
	case vectors + 28:
		return 32
	case vectors + 30:
		return 64
	}
	return 0
}
