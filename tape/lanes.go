package tape

// The lanes of a half: numbers of w bits, one beside the other.

// Each is the half whose lanes of w bits are all x.
func Each(w int, x uint64) uint64 {
	var half uint64
	for at := 0; at < 64; at += w {
		half |= x << at
	}
	return half
}

// Where tells in which half of a vector the lane i lies, and as which lane of
// it.
func Where(w, i int) (int, int) {
	return i * w / 64, i % (64 / w)
}

// High is the half with the highest bit of each lane alone.
func High(w int) uint64 {
	return Each(w, 1<<(w-1))
}

// Full is a lane of ones.
func Full(w int) uint64 {
	return ^uint64(0) >> (64 - w)
}

// Spread makes lanes of ones where v has a lane's highest bit; v has no other
// bits.
func (v Value) Spread(w int) Value {
	return v.Down(w - 1).Times(Number(Full(w)))
}

// Choose has the bits of x where mask has ones, else those of y.
func Choose(x, y, mask Value) Value {
	return y.Xor(x.Xor(y).And(mask))
}

// Lane is the lane i of v, with zeros above it.
func (v Value) Lane(w, i int) Value {
	if (i+1)*w == 64 {
		return v.Down(i * w)
	}
	return v.Down(i * w).And(Number(Full(w)))
}

// Place puts the lowest w bits of v where the lane i stands, with zeros about
// them.
func (v Value) Place(w, i int) Value {
	if (i+1)*w == 64 {
		return v.Up(i * w)
	}
	return v.And(Number(Full(w))).Up(i * w)
}

// All lays the lowest w bits of v in all lanes.
func (v Value) All(w int) Value {
	if w == 64 {
		return v
	}
	return v.And(Number(Full(w))).Times(Number(Each(w, 1)))
}

// Insert is v with the lowest w bits of x in the lane i.
func (v Value) Insert(w, i int, x Value) Value {
	if w == 64 {
		return x
	}
	return v.And(Number(^(Full(w) << (i * w)))).Or(x.Place(w, i))
}

// Product multiplies lanes one by one: the other lanes of b lie above the lane,
// and what they give is cut off.
func Product(w int, a, b Value) Value {
	if w == 64 {
		return a.Times(b)
	}
	return Join(64/w, func(i int) Value {
		own := Number(Full(w) << (i * w))
		return a.And(own).Times(b.Down(i * w)).And(own)
	})
}

// Join is n pieces, of which no two have a bit in one place.
func Join(n int, piece func(i int) Value) Value {
	all := piece(0)
	for i := 1; i < n; i++ {
		all = all.Or(piece(i))
	}
	return all
}

// Widen makes lanes of w bits of the lowest 32 bits of x, in which lanes half
// as wide lie side by side: they are drawn apart, the upper half of them first.
func (m *Maker) Widen(w int, signed bool, x Value) Value {
	v := x.And(Number(Full(32)))
	for g := 16; g >= w/2; g /= 2 {
		v = m.Keep(v)
		v = v.Or(v.Up(g)).And(Number(Each(2*g, Full(g))))
	}
	if !signed {
		return v
	}
	v = m.Keep(v)
	signs := v.And(Number(Each(w, 1<<(w/2-1))))
	return v.Or(signs.Times(Number(2 * Full(w/2))))
}

// Pack is the way back: the lower halves of lanes of w bits, side by side in the
// lowest 32 bits; the upper halves are 0.
func (m *Maker) Pack(w int, v Value) Value {
	for g := w / 2; g < 32; g *= 2 {
		v = m.Keep(v)
		v = v.Or(v.Down(g)).And(Number(Each(4*g, Full(2*g))))
	}
	return v
}
