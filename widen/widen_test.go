package widen_test

import (
	"math"
	"math/big"
	"testing"

	"plait/api"
	"plait/pair"
	"plait/widen"
)

type kind struct {
	name string
	w, k int // the width of the narrow lanes; a number in the row
}

func unary() map[int]kind {
	all := map[int]kind{}
	for i, first := range []int{135, 167, 199} {
		for k := range 4 {
			all[0xfd00+first+k] = kind{"extend", 8 << i, k}
		}
	}
	for i, first := range []int{124, 126} {
		for k := range 2 {
			all[0xfd00+first+k] = kind{"extadd", 8 << i, k}
		}
	}
	return all
}

func binary() map[int]kind {
	all := map[int]kind{0xfd00 + 130: {"q15", 16, 0}, 0xfd00 + 186: {"dot", 16, 0}}
	for i, first := range []int{156, 188, 220} {
		for k := range 4 {
			all[0xfd00+first+k] = kind{"extmul", 8 << i, k}
		}
	}
	for i, first := range []int{101, 133} {
		for k := range 2 {
			all[0xfd00+first+k] = kind{"narrow", 8 << i, k}
		}
	}
	return all
}

func opcodes() []int {
	list := []int{math.MinInt, math.MaxInt, -1, 0, 101, 1<<32 + 0xfd65}
	for op := 0xfc00; op < 0x10000; op++ {
		list = append(list, op)
	}
	return list
}

// samples have lanes at their ends, and steps of bytes.
func samples() []api.Vec {
	var vs []api.Vec
	for _, w := range []int{8, 16, 32, 64} {
		top := uint64(1) << (w - 1)
		xs := []uint64{0, 1, top - 1, top, top + 1, 2*top - 1, 127, 128, 255, 256, 32767, 32768, 65535, 65536, 1<<64 - 1, 1<<64 - 128, 1<<64 - 129, 1<<64 - 32768, 1<<64 - 32769, 2*top - 2, top / 2}
		for at := range xs {
			var v, all api.Vec
			for i := range pair.Lanes(w) {
				v = pair.Set(v, w, i, xs[(at+i*3)%len(xs)])
				all = pair.Set(all, w, i, xs[at])
			}
			vs = append(vs, v, all)
		}
	}
	for step := range 5 {
		var v api.Vec
		for i := range v {
			v[i] = byte(17 + i*(37+step*10))
		}
		vs = append(vs, v)
	}
	return vs
}

// num is the lane as a number without end.
func num(v api.Vec, w, i int, signed bool) *big.Int {
	z := new(big.Int)
	for k := range w / 8 {
		z.Add(z, new(big.Int).Lsh(big.NewInt(int64(v[i*w/8+k])), uint(8*k)))
	}
	if signed && z.Bit(w-1) == 1 {
		z.Sub(z, new(big.Int).Lsh(big.NewInt(1), uint(w)))
	}
	return z
}

func put(v *api.Vec, w, i int, z *big.Int) {
	m := new(big.Int).Mod(z, new(big.Int).Lsh(big.NewInt(1), uint(w)))
	for k := range w / 8 {
		v[i*w/8+k] = byte(new(big.Int).Rsh(m, uint(8*k)).Uint64())
	}
}

func clamp(z *big.Int, lo, hi int64) *big.Int {
	if z.Cmp(big.NewInt(lo)) < 0 {
		return big.NewInt(lo)
	}
	if z.Cmp(big.NewInt(hi)) > 0 {
		return big.NewInt(hi)
	}
	return z
}

func oracle(c kind, a, b api.Vec) api.Vec {
	var out api.Vec
	w, half := c.w, 64/c.w
	signed := c.k < 2
	switch c.name {
	case "extend", "extmul":
		for i := range half {
			z := num(a, w, c.k%2*half+i, signed)
			if c.name == "extmul" {
				z.Mul(z, num(b, w, c.k%2*half+i, signed))
			}
			put(&out, 2*w, i, z)
		}
	case "extadd":
		for i := range half {
			put(&out, 2*w, i, new(big.Int).Add(num(a, w, 2*i, c.k == 0), num(a, w, 2*i+1, c.k == 0)))
		}
	case "narrow":
		lo, hi := -int64(1)<<(w-1), int64(1)<<(w-1)-1
		if c.k == 1 {
			lo, hi = 0, int64(1)<<w-1
		}
		for i := range half {
			put(&out, w, i, clamp(num(a, 2*w, i, true), lo, hi))
			put(&out, w, half+i, clamp(num(b, 2*w, i, true), lo, hi))
		}
	case "dot":
		for i := range 4 {
			x := new(big.Int).Mul(num(a, 16, 2*i, true), num(b, 16, 2*i, true))
			y := new(big.Int).Mul(num(a, 16, 2*i+1, true), num(b, 16, 2*i+1, true))
			put(&out, 32, i, x.Add(x, y))
		}
	case "q15":
		for i := range 8 {
			x := new(big.Int).Mul(num(a, 16, i, true), num(b, 16, i, true))
			x.Add(x, big.NewInt(1<<14))
			put(&out, 16, i, clamp(x.Rsh(x, 15), -1<<15, 1<<15-1))
		}
	}
	return out
}

// P8.1
func TestUn(t *testing.T) {
	all := unary()
	for _, op := range opcodes() {
		c, mine := all[op]
		if !mine {
			if v, e := widen.Un(op, pair.Of(64, 1, 2)); v != (api.Vec{}) || e != api.ErrArg {
				t.Errorf("%x: %x %d", op, v, e)
			}
			continue
		}
		for _, a := range samples() {
			want := oracle(c, a, a)
			if v, e := widen.Un(op, a); v != want || e != 0 {
				t.Errorf("%x of %x: %x %d, want %x", op, a, v, e, want)
			}
		}
	}
}

// P8.2
func TestBin(t *testing.T) {
	all := binary()
	vs := samples()
	for _, op := range opcodes() {
		c, mine := all[op]
		if !mine {
			if v, e := widen.Bin(op, pair.Of(64, 1, 2), pair.Of(64, 3, 4)); v != (api.Vec{}) || e != api.ErrArg {
				t.Errorf("%x: %x %d", op, v, e)
			}
			continue
		}
		for i, a := range vs {
			for j := 0; j < len(vs); j += 1 + i%3 {
				want := oracle(c, a, vs[j])
				if v, e := widen.Bin(op, a, vs[j]); v != want || e != 0 {
					t.Fatalf("%x of %x %x: %x %d, want %x", op, a, vs[j], v, e, want)
				}
			}
		}
	}
}

// P8.1, P8.2: the document's examples.
func TestExamples(t *testing.T) {
	all := func(w int, x uint64) api.Vec {
		var v api.Vec
		for i := range pair.Lanes(w) {
			v = pair.Set(v, w, i, x)
		}
		return v
	}
	front := pair.Of(8, 255)
	uns := []struct {
		op   int
		v    api.Vec
		want uint64
	}{{0xfd87, front, 65535}, {0xfd89, front, 255}, {0xfd7c, all(8, 255), 65534}, {0xfd7d, all(8, 255), 510}}
	for _, r := range uns {
		if v, e := widen.Un(r.op, r.v); pair.Get(v, 16, 0) != r.want || e != 0 {
			t.Errorf("%x: %x %d", r.op, v, e)
		}
	}
	bins := []struct {
		op, w int
		a, b  api.Vec
		want  uint64
	}{
		{0xfd65, 8, all(16, 300), all(16, 0), 127}, {0xfd65, 8, all(16, 65000), all(16, 0), 128}, {0xfd66, 8, all(16, 300), all(16, 0), 255}, {0xfd66, 8, all(16, 65000), all(16, 0), 0},
		{0xfd9c, 16, all(8, 128), all(8, 255), 128}, {0xfdba, 32, all(16, 32768), all(16, 32768), 1 << 31},
		{0xfd82, 16, all(16, 32768), all(16, 32768), 32767}, {0xfd82, 16, all(16, 16384), all(16, 16384), 8192},
	}
	for _, r := range bins {
		if v, e := widen.Bin(r.op, r.a, r.b); pair.Get(v, r.w, 0) != r.want || e != 0 {
			t.Errorf("%x: %x %d", r.op, v, e)
		}
	}
}
