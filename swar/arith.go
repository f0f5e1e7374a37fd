package swar

import (
	"plait/shapes"
	"plait/tape"
)

// arith does arithmetic on lanes of w bits.
func (m maker) arith(w, k int, operands []tape.Value) {
	if k == shapes.Shl || k == shapes.ShrS || k == shapes.ShrU {
		m.shift(w, k, operands)
		return
	}
	m.halves(operands, func(x []tape.Value) tape.Value {
		if len(x) == 1 {
			return m.one(w, k, x[0])
		}
		return m.two(w, k, x[0], x[1])
	})
}

// shift moves the lanes of two halves by a number of places.
func (m maker) shift(w, k int, operands []tape.Value) {
	n := operands[2]
	if w == 64 {
		m.halves(operands[:2], func(x []tape.Value) tape.Value { return moved(k, x[0], n) })
		return
	}
	// What has crossed into another lane is taken away by a mask.
	n = m.Keep(n.And(tape.Number(uint64(w - 1))))
	stay := m.Keep(stays(w, k, n))
	m.halves(operands[:2], func(x []tape.Value) tape.Value {
		if k != shapes.ShrS {
			return moved(k, x[0], n).And(stay)
		}
		sign := m.Keep(x[0].And(high(w)).Spread(w))
		return tape.Choose(x[0].Shr(n), sign, stay)
	})
}

// moved moves a half as a whole.
func moved(k int, x, n tape.Value) tape.Value {
	switch k {
	case shapes.Shl:
		return x.Shl(n)
	case shapes.ShrU:
		return x.Shr(n)
	}
	return x.ShrS(n)
}

// stays is the mask of the bits that a lane moved by n places has of its own.
func stays(w, k int, n tape.Value) tape.Value {
	if k == shapes.Shl {
		gone := tape.Number(1).Shl(n).Minus(tape.Number(1))
		return gone.Times(tape.Number(tape.Each(w, 1))).Not()
	}
	return tape.Number(tape.Full(w)).Shr(n).Times(tape.Number(tape.Each(w, 1)))
}

// one does abs, neg or popcnt on a half.
func (m maker) one(w, k int, x tape.Value) tape.Value {
	switch k {
	case shapes.Abs:
		negative := m.Keep(x.Down(w - 1).And(tape.Number(tape.Each(w, 1))))
		mask := negative.Times(tape.Number(tape.Full(w)))
		return x.Xor(mask).Plus(negative)
	case shapes.Neg:
		return difference(w, tape.Number(0), x)
	}
	return m.ones(x)
}

// ones counts the ones of bytes: of two bits, of four, of eight.
func (m maker) ones(x tape.Value) tape.Value {
	const by1, by2, by4 = 0x5555555555555555, 0x3333333333333333, 0x0f0f0f0f0f0f0f0f
	two := m.Keep(x.And(tape.Number(by1)).Plus(x.Down(1).And(tape.Number(by1))))
	four := m.Keep(two.And(tape.Number(by2)).Plus(two.Down(2).And(tape.Number(by2))))
	return four.Plus(four.Down(4)).And(tape.Number(by4))
}

// two does arithmetic on two halves.
func (m maker) two(w, k int, a, b tape.Value) tape.Value {
	switch k {
	case shapes.Add:
		return sum(w, a, b)
	case shapes.Sub:
		return difference(w, a, b)
	case shapes.Mul:
		return tape.Product(w, a, b)
	case shapes.MinS, shapes.MinU:
		return tape.Choose(a, b, m.below(w, k == shapes.MinS, a, b))
	case shapes.MaxS, shapes.MaxU:
		return tape.Choose(b, a, m.below(w, k == shapes.MaxS, a, b))
	case shapes.AvgrU:
		// The bits that a or b has, less half of those that one alone has.
		return a.Or(b).Minus(a.Xor(b).Down(1).And(rest(w)))
	}
	return m.saturate(w, k, a, b)
}

// saturate adds or takes away, and holds to the lane's ends what passes them.
func (m maker) saturate(w, k int, a, b tape.Value) tape.Value {
	if k == shapes.AddSatU || k == shapes.AddSatS {
		s := m.Keep(sum(w, a, b))
		if k == shapes.AddSatS {
			return m.held(w, a, s, a.Xor(b).Not().And(a.Xor(s)))
		}
		carries := a.And(b).Or(a.Or(b).And(s.Not())).And(high(w))
		return s.Or(carries.Spread(w))
	}
	d := m.Keep(difference(w, a, b))
	if k == shapes.SubSatS {
		return m.held(w, a, d, a.Xor(b).And(a.Xor(d)))
	}
	return d.And(borrows(w, a, b, d).Spread(w).Not())
}

// held is x, but where over has a lane's highest bit the end on the side of a's
// sign.
func (m maker) held(w int, a, x, over tape.Value) tape.Value {
	mask := m.Keep(over.And(high(w)).Spread(w))
	ends := a.Down(w - 1).And(tape.Number(tape.Each(w, 1))).Plus(rest(w))
	return tape.Choose(ends, x, mask)
}
