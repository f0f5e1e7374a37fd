package tape

import (
	"plait/api"
	"plait/cells"
)

// Value lays cells that leave one number of 64 bits on the stack, and change
// nothing else.
type Value func(t *Tape)

// The operators by which values are put together.
const (
	eqz32  = 0x45
	eqz64  = 0x50
	eq64   = 0x51
	add64  = 0x7c
	sub64  = 0x7d
	mul64  = 0x7e
	and64  = 0x83
	or64   = 0x84
	xor64  = 0x85
	shl64  = 0x86
	shrS64 = 0x87
	shrU64 = 0x88
	rotr64 = 0x8a
)

// Number is a constant.
func Number(n uint64) Value {
	return func(t *Tape) { t.Lay(api.Cell{Op: cells.Const, N: n}) }
}

// Local is what a local holds.
func Local(l int) Value {
	return func(t *Tape) { t.Lay(api.Cell{Op: cells.Get, A: l}) }
}

// Pick is x if the lowest 32 bits of cond aren't all 0, else y.
func Pick(x, y, cond Value) Value {
	return func(t *Tape) {
		x(t)
		y(t)
		cond(t)
		t.Lay(api.Cell{Op: cells.Select})
	}
}

// Un is an operator of one operand, done on v.
func (v Value) Un(op int) Value {
	return func(t *Tape) {
		v(t)
		t.Lay(api.Cell{Op: op})
	}
}

// Bin is an operator of two operands, done on v and w.
func (v Value) Bin(op int, w Value) Value {
	return func(t *Tape) {
		v(t)
		w(t)
		t.Lay(api.Cell{Op: op})
	}
}

// And is v and w, bit by bit.
func (v Value) And(w Value) Value { return v.Bin(and64, w) }

// Or is v or w, bit by bit.
func (v Value) Or(w Value) Value { return v.Bin(or64, w) }

// Xor is where v and w differ, bit by bit.
func (v Value) Xor(w Value) Value { return v.Bin(xor64, w) }

// Not is v with all bits turned.
func (v Value) Not() Value { return v.Xor(Number(1<<64 - 1)) }

// Plus is v and w together.
func (v Value) Plus(w Value) Value { return v.Bin(add64, w) }

// Minus is v less w.
func (v Value) Minus(w Value) Value { return v.Bin(sub64, w) }

// Times is v times w.
func (v Value) Times(w Value) Value { return v.Bin(mul64, w) }

// Shl is v moved up by n places, modulo 64.
func (v Value) Shl(n Value) Value { return v.Bin(shl64, n) }

// Shr is v moved down by n places, modulo 64, behind zeros.
func (v Value) Shr(n Value) Value { return v.Bin(shrU64, n) }

// ShrS is v moved down by n places, modulo 64, behind its sign.
func (v Value) ShrS(n Value) Value { return v.Bin(shrS64, n) }

// Rotr is v turned round by n places down.
func (v Value) Rotr(n Value) Value { return v.Bin(rotr64, n) }

// Up is v moved up by n places.
func (v Value) Up(n int) Value {
	if n == 0 {
		return v
	}
	return v.Shl(Number(uint64(n)))
}

// Down is v moved down by n places, behind zeros.
func (v Value) Down(n int) Value {
	if n == 0 {
		return v
	}
	return v.Shr(Number(uint64(n)))
}

// IsZero is 1 if v is 0, else 0.
func (v Value) IsZero() Value { return v.Un(eqz64) }

// IsZero32 is 1 if the lowest 32 bits of v are 0, else 0.
func (v Value) IsZero32() Value { return v.Un(eqz32) }

// Is is 1 if v is w, else 0.
func (v Value) Is(w Value) Value { return v.Bin(eq64, w) }
