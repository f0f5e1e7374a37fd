package compare_test

import (
	"math"
	"testing"

	"plait/api"
	"plait/compare"
	"plait/pair"
)

var rel = []string{"eq", "ne", "lt_s", "lt_u", "gt_s", "gt_u", "le_s", "le_u", "ge_s", "ge_u"}

type cmp struct {
	w    int
	name string
}

func comparisons() map[int]cmp {
	all := map[int]cmp{}
	for i, w := range []int{8, 16, 32} {
		for k, r := range rel {
			all[0xfd00+35+10*i+k] = cmp{w, r}
		}
	}
	for k, r := range []string{"eq", "ne", "lt_s", "gt_s", "le_s", "ge_s"} {
		all[0xfd00+214+k] = cmp{64, r}
	}
	return all
}

func tests() map[int]cmp {
	all := map[int]cmp{0xfd00 + 83: {8, "any"}}
	for i, w := range []int{8, 16, 32, 64} {
		all[0xfd00+99+32*i] = cmp{w, "all"}
		all[0xfd00+100+32*i] = cmp{w, "bitmask"}
	}
	return all
}

var bitOps = map[int]int{0xfd00 + 77: 1, 0xfd00 + 78: 2, 0xfd00 + 79: 2, 0xfd00 + 80: 2, 0xfd00 + 81: 2, 0xfd00 + 82: 3}

func samples(w int) []uint64 {
	top := uint64(1) << (w - 1)
	all := ^uint64(0) >> (64 - w)
	return []uint64{0, 1, 2, top - 1, top, top + 1, all - 1, all, all / 3, top / 2}
}

// holds tells what a relation says: by the difference of the signed numbers, or
// of those without signs.
func holds(name string, x, y uint64, w int) bool {
	less := x < y
	if name[len(name)-1] == 's' {
		top := uint64(1) << (w - 1)
		less = (x ^ top) < (y ^ top)
	}
	switch name[:2] {
	case "eq":
		return x == y
	case "ne":
		return x != y
	case "lt":
		return less
	case "le":
		return less || x == y
	case "gt":
		return !less && x != y
	}
	return !less
}

// opcodes are all numbers about the vectors' opcodes, and some far away.
func opcodes() []int {
	list := []int{math.MinInt, math.MaxInt, -1, 0, 77, 1<<32 + 0xfd23}
	for op := 0xfc00; op < 0x10000; op++ {
		list = append(list, op)
	}
	return list
}

// P6.1
func TestCmp(t *testing.T) {
	all := comparisons()
	for _, op := range opcodes() {
		c, mine := all[op]
		if !mine {
			if v, e := compare.Cmp(op, api.Vec{}, api.Vec{}); v != (api.Vec{}) || e != api.ErrArg {
				t.Errorf("%x: %x, %d", op, v, e)
			}
			continue
		}
		xs := samples(c.w)
		for at := range xs {
			for other := range xs {
				var a, b, want api.Vec
				for i := range pair.Lanes(c.w) {
					x, y := xs[(at+i)%len(xs)], xs[(other+i*i)%len(xs)]
					a, b = pair.Set(a, c.w, i, x), pair.Set(b, c.w, i, y)
					if holds(c.name, x, y, c.w) {
						want = pair.Set(want, c.w, i, math.MaxUint64)
					}
				}
				if v, e := compare.Cmp(op, a, b); v != want || e != 0 {
					t.Errorf("%x: %x %x: %x, %d, want %x", op, a, b, v, e, want)
				}
			}
		}
	}
}

func whole() []api.Vec {
	vs := []api.Vec{{}}
	for i := range 16 {
		var a, b, c, d api.Vec
		a[i], b[i], d[i] = 1, 128, 0x5a
		for k := range c {
			c[k] = byte(255 - k*i)
		}
		full := pair.Of(64, math.MaxUint64, math.MaxUint64)
		full[i] = 0
		vs = append(vs, a, b, c, d, full)
	}
	for _, w := range []int{8, 16, 32, 64} {
		vs = append(vs, pair.Of(w, 1, 1, 1, 1, 1, 1, 1, 1, 1, 1, 1, 1, 1, 1, 1, 1), pair.Of(w, 1, 1<<(w-1), 0, 1<<(w-1)))
	}
	return append(vs, pair.Of(64, math.MaxUint64, math.MaxUint64), pair.Of(64, 0, 1<<63))
}

// P6.2
func TestTest(t *testing.T) {
	all := tests()
	for _, op := range opcodes() {
		c, mine := all[op]
		if !mine {
			if n, e := compare.Test(op, pair.Of(64, 7, 7)); n != 0 || e != api.ErrArg {
				t.Errorf("%x: %x, %d", op, n, e)
			}
			continue
		}
		for _, v := range whole() {
			var some, mask uint32
			every := uint32(1)
			for i, x := range pair.All(v, c.w) {
				if x == 0 {
					every = 0
				} else {
					some = 1
				}
				mask |= uint32(x>>(c.w-1)) << i
			}
			want := map[string]uint32{"any": some, "all": every, "bitmask": mask}[c.name]
			if n, e := compare.Test(op, v); n != want || e != 0 {
				t.Errorf("%x of %x: %x, %d, want %x", op, v, n, e, want)
			}
		}
	}
}

// P6.3
func TestBits(t *testing.T) {
	a, b, c := pair.Of(64, 0xf0f0aaaa12345678, 0x00ff00ff), pair.Of(64, 0xff00cccc87654321, 0x0f0f0f0f), pair.Of(64, 0xaaaa5555f0f0ff00, 0x33333333)
	for _, op := range opcodes() {
		for n := range 5 {
			vs := []api.Vec{a, b, c, a}[:n]
			v, e := compare.Bits(op, vs...)
			if bitOps[op] != n || n == 0 {
				if v != (api.Vec{}) || e != api.ErrArg {
					t.Errorf("%x of %d: %x, %d", op, n, v, e)
				}
				continue
			}
			x, y, z := pair.Split(a), pair.Split(b), pair.Split(c)
			want := pair.Join(api.Halves{Lo: word(op, x.Lo, y.Lo, z.Lo), Hi: word(op, x.Hi, y.Hi, z.Hi)})
			if v != want || e != 0 {
				t.Errorf("%x: %x, %d, want %x", op, v, e, want)
			}
			if vs[0] != a || n > 1 && vs[1] != b || n > 2 && vs[2] != c {
				t.Errorf("%x has changed what was handed in", op)
			}
		}
	}
}

func word(op int, x, y, z uint64) uint64 {
	switch op - 0xfd00 {
	case 77:
		return ^x
	case 78:
		return x & y
	case 79:
		return x & ^y
	case 80:
		return x | y
	case 81:
		return x ^ y
	}
	return x&z | y&^z
}

// P6.1, P6.2, P6.3: the document's examples.
func TestExamples(t *testing.T) {
	a, b, ones := pair.Of(8, 255), pair.Of(8, 1), pair.Of(64, math.MaxUint64, math.MaxUint64)
	rows := []struct {
		op   int
		want api.Vec
	}{{0xfd25, pair.Of(8, 255)}, {0xfd26, api.Vec{}}, {0xfd2c, ones}, {0xfd23, pair.Set(ones, 8, 0, 0)}}
	for _, r := range rows {
		if v, e := compare.Cmp(r.op, a, b); v != r.want || e != 0 {
			t.Errorf("%x: %x, %d", r.op, v, e)
		}
	}
	for op, want := range map[int]uint32{0xfd64: 1, 0xfd63: 0, 0xfd53: 1} {
		if n, e := compare.Test(op, a); n != want || e != 0 {
			t.Errorf("%x: %d, %d", op, n, e)
		}
	}
	if n, e := compare.Test(0xfdc4, pair.Of(64, 0, 1<<63)); n != 2 || e != 0 {
		t.Error(n, e)
	}
	if v, e := compare.Bits(0xfd52, a, b, ones); v != a || e != 0 {
		t.Error(v, e)
	}
}
