package shapes

// What stands in no row.
const (
	Q15mulr = vectors + 130 // of 16 bits
	Dot     = vectors + 186 // from 16 to 32 bits
)

// Part is which lanes of a vector are made wider, and how.
type Part struct {
	High   bool // those of the upper half
	Signed bool
}

// Extend tells the width of the lanes that an extend makes, and of which; 0, if
// op is none.
func Extend(op int) (int, Part) {
	return part(op, vectors+135, vectors+167, vectors+199)
}

// Extmul tells likewise of an extmul.
func Extmul(op int) (int, Part) {
	return part(op, vectors+156, vectors+188, vectors+220)
}

// Pairwise tells the width of the lanes that an extadd_pairwise makes, and
// whether of signed ones; 0, if op is none.
func Pairwise(op int) (int, bool) {
	k, at := row(op, 2, vectors+124, vectors+126)
	return 16 * k, k != 0 && at == 0
}

// Narrow tells the width of the lanes that a narrow makes, and whether signed
// ones; 0, if op is none.
func Narrow(op int) (int, bool) {
	k, at := row(op, 2, vectors+101, vectors+133)
	return 8 * k, k != 0 && at == 0
}

// part tells the width and the part of a row of low_s, high_s, low_u, high_u.
func part(op int, firsts ...int) (int, Part) {
	k, at := row(op, 4, firsts...)
	if k == 0 {
		return 0, Part{}
	}
	return 16 * k, Part{High: at%2 == 1, Signed: at < 2}
}

// row looks for op in rows of n opcodes, whose first ones are told: it answers
// 1, 2 or 4, as the row is the first, second or third, and the place in it; 0
// and 0, if op is in none.
func row(op int, n int, firsts ...int) (int, int) {
	for i, first := range firsts {
		if op >= first && op < first+n {
			return 1 << i, op - first
		}
	}
	return 0, 0
}
