package swar

import (
	"plait/shapes"
	"plait/tape"
)

// compare64 is the first of the operators that compare numbers of 64 bits, in
// the order of the relations.
const compare64 = 0x51

// high has the highest bit of each lane, rest all others.
func high(w int) tape.Value { return tape.Number(tape.High(w)) }
func rest(w int) tape.Value { return tape.Number(^tape.High(w)) }

// sum adds lanes: without their highest bits no carry leaves a lane, and of
// these the sum is where they and the carry into them differ.
func sum(w int, a, b tape.Value) tape.Value {
	if w == 64 {
		return a.Plus(b)
	}
	return a.And(rest(w)).Plus(b.And(rest(w))).Xor(a.Xor(b).And(high(w)))
}

// difference takes lanes from lanes: a highest bit that is lent beforehand keeps
// every borrow in its lane.
func difference(w int, a, b tape.Value) tape.Value {
	if w == 64 {
		return a.Minus(b)
	}
	return a.Or(high(w)).Minus(b.And(rest(w))).Xor(a.Xor(b.Not()).And(high(w)))
}

// nonzero has the highest bit of each lane of x that isn't 0.
func nonzero(w int, x tape.Value) tape.Value {
	return x.And(rest(w)).Plus(rest(w)).Or(x).And(high(w))
}

// borrows has the highest bit of each lane of a that is below b's, without
// signs; d is their difference.
func borrows(w int, a, b, d tape.Value) tape.Value {
	return a.Not().And(b).Or(a.Xor(b).Not().And(d)).And(high(w))
}

// below is the mask of the lanes of a below those of b.
func (m maker) below(w int, signed bool, a, b tape.Value) tape.Value {
	d := m.Keep(difference(w, a, b))
	if signed {
		// With signs it is the other one's highest bit that decides.
		return a.And(b.Not()).Or(a.Xor(b).Not().And(d)).And(high(w)).Spread(w)
	}
	return borrows(w, a, b, d).Spread(w)
}

// relation is the mask of the lanes of a that stand to b's as k says.
func (m maker) relation(w, k int, a, b tape.Value) tape.Value {
	if w == 64 {
		return tape.Number(0).Minus(a.Bin(compare64+k, b))
	}
	switch k {
	case shapes.Eq:
		return nonzero(w, m.Keep(a.Xor(b))).Xor(high(w)).Spread(w)
	case shapes.Ne:
		return nonzero(w, m.Keep(a.Xor(b))).Spread(w)
	case shapes.LtS, shapes.LtU:
		return m.below(w, k == shapes.LtS, a, b)
	case shapes.GtS, shapes.GtU:
		return m.below(w, k == shapes.GtS, b, a)
	case shapes.LeS, shapes.LeU:
		return m.below(w, k == shapes.LeS, b, a).Not()
	}
	return m.below(w, k == shapes.GeS, a, b).Not()
}
