package shapes

// The rows of comparisons: of the widths 8, 16 and 32 with ten relations each,
// of the width 64 with six.
const (
	relations  = 10
	smallFirst = vectors + 35
	smallEnd   = smallFirst + 3*relations
	largeFirst = vectors + 214
	largeEnd   = largeFirst + 6
)

// The relations, in the order of the operators on numbers too.
const (
	Eq = iota
	Ne
	LtS
	LtU
	GtS
	GtU
	LeS
	LeU
	GeS
	GeU
)

// Relation tells the width of a comparison, and which relation it asks for; 0
// and 0, if op is none.
func Relation(op int) (int, int) {
	if op >= smallFirst && op < smallEnd {
		return 8 << ((op - smallFirst) / relations), (op - smallFirst) % relations
	}
	if op >= largeFirst && op < largeEnd {
		// Lanes of 64 bits are compared as signed numbers alone.
		signed := [...]int{Eq, Ne, LtS, GtS, LeS, GeS}
		return 64, signed[op-largeFirst]
	}
	return 0, 0
}

// The instructions on bits.
const (
	Not       = vectors + 77
	And       = vectors + 78
	AndNot    = vectors + 79
	Or        = vectors + 80
	Xor       = vectors + 81
	Bitselect = vectors + 82
)

// Bits tells how many vectors an instruction on bits takes; 0, if op is none.
func Bits(op int) int {
	switch op {
	case Not:
		return 1
	case And, AndNot, Or, Xor:
		return 2
	case Bitselect:
		return 3
	}
	return 0
}

// What tells of a vector as a whole.
const (
	AnyTrue = vectors + 83
	AllTrue = vectors + 99  // of the width 8
	Bitmask = vectors + 100 // of the width 8
)

// Whole tells the width of any_true (8), all_true and bitmask, and which of
// them op is, by its opcode of the width 8; 0 and 0, if it is none.
func Whole(op int) (int, int) {
	if op == AnyTrue {
		return 8, AnyTrue
	}
	for k := range 4 {
		switch op - k*arithRow {
		case AllTrue:
			return 8 << k, AllTrue
		case Bitmask:
			return 8 << k, Bitmask
		}
	}
	return 0, 0
}
