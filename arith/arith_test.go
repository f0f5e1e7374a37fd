package arith_test

import (
	"math"
	"math/big"
	"testing"

	"plait/api"
	"plait/arith"
	"plait/pair"
)

var bases = map[int]int{8: 96, 16: 128, 32: 160, 64: 192}

// which tells, by the document's table, the widths of each offset.
var which = map[int][]int{
	0: {8, 16, 32, 64}, 1: {8, 16, 32, 64}, 2: {8}, 11: {8, 16, 32, 64}, 12: {8, 16, 32, 64}, 13: {8, 16, 32, 64},
	14: {8, 16, 32, 64}, 17: {8, 16, 32, 64}, 15: {8, 16}, 18: {8, 16}, 16: {8, 16}, 19: {8, 16},
	21: {16, 32, 64}, 22: {8, 16, 32}, 23: {8, 16, 32}, 24: {8, 16, 32}, 25: {8, 16, 32}, 27: {8, 16},
}

func ops() map[int][2]int {
	all := map[int][2]int{}
	for k, ws := range which {
		for _, w := range ws {
			all[0xfd00+bases[w]+k] = [2]int{w, k}
		}
	}
	return all
}

// lanes are numbers of a width that stand at its ends and between.
func lanes(w int) []uint64 {
	top := uint64(1) << (w - 1)
	all := ^uint64(0) >> (64 - w)
	xs := []uint64{0, 1, 2, 3, 5, top - 2, top - 1, top, top + 1, top + 2, all - 2, all - 1, all, all / 3, all / 5, top / 2, top/2 - 1}
	if w == 8 {
		xs = nil
		for x := range uint64(256) {
			xs = append(xs, x)
		}
	}
	return xs
}

func signed(x uint64, w int) *big.Int {
	z := new(big.Int).SetUint64(x)
	if x>>(w-1) == 1 {
		z.Sub(z, new(big.Int).Lsh(big.NewInt(1), uint(w)))
	}
	return z
}

func clamp(z *big.Int, lo, hi int64) *big.Int {
	if z.Cmp(big.NewInt(lo)) < 0 {
		return big.NewInt(lo)
	}
	if z.Cmp(big.NewInt(hi)) > 0 {
		return big.NewInt(hi)
	}
	return z
}

// oracle is the lane by the words of the table, over numbers without end.
func oracle(k, w int, x, y uint64, n uint32) uint64 {
	ux, uy := new(big.Int).SetUint64(x), new(big.Int).SetUint64(y)
	sx, sy, z := signed(x, w), signed(y, w), new(big.Int)
	top := int64(1) << (w - 1)
	switch k {
	case 0:
		z.Abs(sx)
	case 1:
		z.Neg(ux)
	case 2:
		for i := range w {
			z.Add(z, big.NewInt(int64(x>>i&1)))
		}
	case 11:
		z.Lsh(ux, uint(n%uint32(w)))
	case 12:
		z.Rsh(sx, uint(n%uint32(w)))
	case 13:
		z.Rsh(ux, uint(n%uint32(w)))
	case 14:
		z.Add(ux, uy)
	case 15:
		z = clamp(z.Add(sx, sy), -top, top-1)
	case 16:
		z = clamp(z.Add(ux, uy), 0, 2*top-1)
	case 17:
		z.Sub(ux, uy)
	case 18:
		z = clamp(z.Sub(sx, sy), -top, top-1)
	case 19:
		z = clamp(z.Sub(ux, uy), 0, 2*top-1)
	case 21:
		z.Mul(ux, uy)
	case 22, 24:
		z = sx
		if (sx.Cmp(sy) < 0) != (k == 22) {
			z = sy
		}
	case 23, 25:
		z = ux
		if (ux.Cmp(uy) < 0) != (k == 23) {
			z = uy
		}
	case 27:
		z.Rsh(z.Add(z.Add(ux, uy), big.NewInt(1)), 1)
	}
	return new(big.Int).Mod(z, new(big.Int).Lsh(big.NewInt(1), uint(w))).Uint64()
}

// fill lays the numbers from xs in turn, from the number at on, into a vector.
func fill(w int, xs []uint64, at int) api.Vec {
	var v api.Vec
	for i := range pair.Lanes(w) {
		v = pair.Set(v, w, i, xs[(at+i)%len(xs)])
	}
	return v
}

// P5.1
func TestWidth(t *testing.T) {
	all := ops()
	for op := -300; op < 0x10200; op++ {
		if arith.Width(op) != all[op][0] {
			t.Errorf("%x: %d", op, arith.Width(op))
		}
	}
	for _, op := range []int{math.MinInt, math.MaxInt, 1<<32 + 0xfd6e} {
		if arith.Width(op) != 0 {
			t.Errorf("%x: %d", op, arith.Width(op))
		}
	}
}

// P5.2: each lane by itself, as the table says.
func TestLanes(t *testing.T) {
	for op, p := range ops() {
		w, k := p[0], p[1]
		xs := lanes(w)
		step := 1
		if w == 8 {
			step = 16 // the lanes of one vector go through the numbers themselves
		}
		for at := 0; at < len(xs); at += step {
			for other := range xs {
				n := uint32(other)
				if other == 3 {
					n = math.MaxUint32
				}
				a, b := fill(w, xs, at), fill(w, xs, other)
				v, e := do(op, k, a, b, n)
				if e != 0 {
					t.Fatalf("%x: %d", op, e)
				}
				for i := range pair.Lanes(w) {
					x, y := pair.Get(a, w, i), pair.Get(b, w, i)
					if got, want := pair.Get(v, w, i), oracle(k, w, x, y, n); got != want {
						t.Fatalf("%x: %x, %x, %d: %x, want %x", op, x, y, n, got, want)
					}
				}
			}
		}
	}
}

func do(op, k int, a, b api.Vec, n uint32) (api.Vec, api.Errno) {
	switch {
	case k <= 2:
		return arith.Un(op, a)
	case k <= 13:
		return arith.Shift(op, a, n)
	}
	return arith.Bin(op, a, b)
}

// P5.2: ErrArg, and then no vector.
func TestNotTheCalls(t *testing.T) {
	all := ops()
	a := fill(8, []uint64{1, 2, 200}, 0)
	list := []int{math.MinInt, math.MaxInt, -1, 1<<32 + 0xfd6e}
	for op := 0xfc00; op < 0x10000; op++ {
		list = append(list, op)
	}
	for _, op := range list {
		p := all[op]
		v, e := arith.Un(op, a)
		check(t, op, "Un", p[0] != 0 && p[1] <= 2, v, e)
		v, e = arith.Shift(op, a, 1)
		check(t, op, "Shift", p[0] != 0 && p[1] >= 11 && p[1] <= 13, v, e)
		v, e = arith.Bin(op, a, a)
		check(t, op, "Bin", p[0] != 0 && p[1] >= 14, v, e)
	}
}

func check(t *testing.T, op int, call string, mine bool, v api.Vec, e api.Errno) {
	t.Helper()
	if mine != (e == 0) || !mine && (e != api.ErrArg || v != api.Vec{}) {
		t.Errorf("%s of %x: %x, %d", call, op, v, e)
	}
}

// P5.1, P5.2: the document's examples.
func TestExamples(t *testing.T) {
	splat := func(x uint64) api.Vec { return fill(8, []uint64{x}, 0) }
	rows := []struct{ k, x, y, z int }{
		{0, 128, 0, 128}, {1, 1, 0, 255}, {2, 255, 0, 8}, {14, 200, 100, 44}, {16, 200, 100, 255}, {15, 100, 100, 127}, {15, 128, 255, 128},
		{19, 1, 2, 0}, {18, 128, 1, 128}, {22, 255, 1, 255}, {23, 255, 1, 1}, {27, 255, 254, 255}, {11, 255, 9, 254}, {12, 128, 1, 192}, {13, 128, 1, 64},
	}
	for _, r := range rows {
		v, e := do(0xfd60+r.k, r.k, splat(uint64(r.x)), splat(uint64(r.y)), uint32(r.y))
		if v != splat(uint64(r.z)) || e != 0 {
			t.Error(r, v, e)
		}
	}
	big := fill(16, []uint64{256}, 0)
	if v, e := arith.Bin(0xfd95, big, big); v != (api.Vec{}) || e != 0 {
		t.Error(v, e)
	}
	if arith.Width(0xfd6e) != 8 || arith.Width(0xfdce) != 64 || arith.Width(0xfd82) != 0 {
		t.Error("Width")
	}
}
