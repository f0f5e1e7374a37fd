package shapes

// What an access of a vector does.
const (
	NoAccess  = iota
	Load      // of a whole vector
	LoadWiden // of eight bytes, as lanes twice as wide
	LoadSplat
	LoadLane
	LoadZero
	Store // of a whole vector
	StoreLane
)

// The rows of accesses; those of lanes and splats have 1, 2, 4, 8 bytes.
const (
	loadWhole  = vectors
	widenFirst = vectors + 0x01 // load8x8_s, load8x8_u, load16x4_s, ..
	widenLast  = vectors + 0x06
	laidFirst  = vectors + 0x07
	laidLast   = vectors + 0x0a
	storeWhole = vectors + 0x0b
	loadFirst  = vectors + 0x54
	loadLast   = vectors + 0x57
	storeFirst = vectors + 0x58
	storeLast  = vectors + 0x5b
	zero32     = vectors + 0x5c
	zero64     = vectors + 0x5d
)

// Access tells what an access of a vector does, and how many bytes it has;
// NoAccess and 0, if op is none.
func Access(op int) (int, int) {
	switch {
	case op == loadWhole:
		return Load, 16
	case op >= widenFirst && op <= widenLast:
		return LoadWiden, 8
	case op >= laidFirst && op <= laidLast:
		return LoadSplat, 1 << (op - laidFirst)
	case op == storeWhole:
		return Store, 16
	case op >= loadFirst && op <= loadLast:
		return LoadLane, 1 << (op - loadFirst)
	case op >= storeFirst && op <= storeLast:
		return StoreLane, 1 << (op - storeFirst)
	case op == zero32:
		return LoadZero, 4
	case op == zero64:
		return LoadZero, 8
	}
	return NoAccess, 0
}

// Widened tells the width of the lanes that a load makes twice as wide as they
// lie in memory, and whether with their signs; 0, if op is none.
func Widened(op int) (int, bool) {
	if op < widenFirst || op > widenLast {
		return 0, false
	}
	k := op - widenFirst
	return 16 << (k / 2), k%2 == 0
}
