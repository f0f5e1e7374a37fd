package permute

import (
	"plait/shapes"
	"plait/tape"
)

// The operators of 32 bits that work on lanes of 16.
const (
	signed16 = 0xc1
	eq32     = 0x46
	add32    = 0x6a
	sub32    = 0x6b
	mul32    = 0x6c
	shrS32   = 0x75
)

// resize makes lanes wider or narrower.
func (m maker) resize(op int, x []tape.Value) {
	if w, part := shapes.Extend(op); w != 0 {
		m.Put(m.extend(w, part, 0, x), m.extend(w, part, 1, x))
		return
	}
	if w, part := shapes.Extmul(op); w != 0 {
		for k := range 2 {
			a, b := m.Keep(m.extend(w, part, k, x[:2])), m.Keep(m.extend(w, part, k, x[2:]))
			m.Put(tape.Product(w, a, b))
		}
		return
	}
	if w, signed := shapes.Pairwise(op); w != 0 {
		m.Put(pairwise(w, signed, x[0]), pairwise(w, signed, x[1]))
		return
	}
	if w, signed := shapes.Narrow(op); w != 0 {
		m.Put(m.narrow(w, signed, x[0], x[1]), m.narrow(w, signed, x[2], x[3]))
		return
	}
	for k := range 2 {
		if op == shapes.Dot {
			m.Put(dot(x[k], x[k+2]))
		} else {
			m.Put(m.rounded(x[k], x[k+2]))
		}
	}
}

// extend makes the k-th half of the result of the lanes of one half.
func (m maker) extend(w int, part shapes.Part, k int, x []tape.Value) tape.Value {
	from := x[0]
	if part.High {
		from = x[1]
	}
	return m.Widen(w, part.Signed, from.Down(32*k))
}

// pairwise adds neighbouring lanes to lanes of w bits.
func pairwise(w int, signed bool, x tape.Value) tape.Value {
	if signed {
		// Raised by half their range lanes have no sign; the sum is too great by
		// the whole of it then.
		x = x.Xor(tape.Number(tape.High(w / 2)))
	}
	lower := tape.Number(tape.Each(w, tape.Full(w/2)))
	sum := x.And(lower).Plus(x.Down(w / 2).And(lower))
	if !signed {
		return sum
	}
	return sum.Plus(tape.Number(tape.Each(w, 1<<(w-1)-1<<(w/2)))).Xor(tape.Number(tape.High(w)))
}

// narrow makes a half of lanes of w bits of the lanes of two halves.
func (m maker) narrow(w int, signed bool, lo, hi tape.Value) tape.Value {
	low := m.Keep(m.Pack(2*w, m.hold(w, signed, lo)))
	return low.Or(m.Pack(2*w, m.hold(w, signed, hi)).Up(32))
}

// hold holds signed lanes, twice as wide as w, to the ends of lanes of w bits;
// what is above these is 0.
func (m maker) hold(w int, signed bool, x tape.Value) tape.Value {
	wide := 2 * w
	high := tape.Number(tape.High(wide))
	negative := m.Keep(x.And(high).Spread(wide))
	// How far a lane is from 0, or from -1; of a lane without a sign 0, if it is
	// below that.
	bits, far := w, x.And(negative.Not())
	if signed {
		bits, far = w-1, x.Xor(negative)
	}
	far = m.Keep(far)
	over := far.Plus(tape.Number(tape.Each(wide, 1<<(wide-1)-1<<bits))).And(high)
	held := far.Or(over.Down(wide - 1).Times(tape.Number(tape.Full(bits)))).And(tape.Number(tape.Each(wide, tape.Full(bits))))
	if !signed {
		return held
	}
	return held.Xor(negative).And(tape.Number(tape.Each(wide, tape.Full(w))))
}

// product multiplies the signed lanes i, of 16 bits, as numbers of 32.
func product(a, b tape.Value, i int) tape.Value {
	return a.Down(16*i).Un(signed16).Bin(mul32, b.Down(16*i).Un(signed16))
}

// dot adds the products of neighbouring signed lanes of 16 bits.
func dot(a, b tape.Value) tape.Value {
	return tape.Join(2, func(i int) tape.Value {
		return product(a, b, 2*i).Bin(add32, product(a, b, 2*i+1)).Place(32, i)
	})
}

// rounded multiplies signed lanes of 16 bits as fractions of 2^15.
func (m maker) rounded(a, b tape.Value) tape.Value {
	const least = 1 << 15 // the one number that passes the lane's end, by 1
	return tape.Join(4, func(i int) tape.Value {
		x := product(a, b, i).Bin(add32, tape.Number(1<<14)).Bin(shrS32, tape.Number(15))
		x = m.Keep(x)
		return x.Bin(sub32, x.Bin(eq32, tape.Number(least))).Place(16, i)
	})
}
