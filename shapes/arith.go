// Package shapes tells of a vector's opcode what it does, and on lanes of which
// width. The layers that do an instruction and those that compile it both ask
// it.
package shapes

// vectors is the first opcode of the vectors' instructions.
const vectors = 0xfd00

// The opcodes of arithmetic on lanes of 8, 16, 32 and 64 bits: four rows, one
// behind the other.
const (
	arithFirst = vectors + 96
	arithRow   = 32
	arithLast  = arithFirst + 4*arithRow - 1
)

// What arithmetic does: the offset from its row's first opcode.
const (
	Abs     = 0
	Neg     = 1
	Popcnt  = 2
	Shl     = 11
	ShrS    = 12
	ShrU    = 13
	Add     = 14
	AddSatS = 15
	AddSatU = 16
	Sub     = 17
	SubSatS = 18
	SubSatU = 19
	Mul     = 21
	MinS    = 22
	MinU    = 23
	MaxS    = 24
	MaxU    = 25
	AvgrU   = 27
)

// Arith tells the width of an instruction of arithmetic, and what it does; 0
// and 0, if op is none.
func Arith(op int) (int, int) {
	if op < arithFirst || op > arithLast {
		return 0, 0
	}
	w, k := 8<<((op-arithFirst)/arithRow), (op-arithFirst)%arithRow
	if !has(w, k) {
		return 0, 0
	}
	return w, k
}

// has tells whether lanes of the width w have the arithmetic k.
func has(w, k int) bool {
	switch k {
	case Abs, Neg, Shl, ShrS, ShrU, Add, Sub:
		return true
	case Popcnt:
		return w == 8
	case AddSatS, AddSatU, SubSatS, SubSatU, AvgrU:
		return w <= 16
	case Mul:
		return w >= 16
	case MinS, MinU, MaxS, MaxU:
		return w <= 32
	}
	return false
}
