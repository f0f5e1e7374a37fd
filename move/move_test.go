package move_test

import (
	"encoding/binary"
	"math"
	"testing"

	"plait/api"
	"plait/move"
)

var strange = []int{math.MinInt, math.MaxInt, -1, 0, 15, 0x15, 1<<32 + 0xfd15}

func opcodes() []int {
	list := append([]int{}, strange...)
	for op := 0xfc00; op < 0xff00; op++ {
		list = append(list, op)
	}
	return list
}

func ramp(first, step int) api.Vec {
	var v api.Vec
	for i := range v {
		v[i] = byte(first + step*i)
	}
	return v
}

func lane(v api.Vec, w, i int) uint64 {
	var b [8]byte
	copy(b[:], v[i*w/8:(i+1)*w/8])
	return binary.LittleEndian.Uint64(b[:])
}

// P7.1
func TestSplat(t *testing.T) {
	widths := map[int]int{0xfd0f: 8, 0xfd10: 16, 0xfd11: 32, 0xfd12: 64}
	for _, op := range opcodes() {
		for _, x := range []uint64{0, 1, 70000, 0x80, 0x123456789abcdef0, math.MaxUint64} {
			v, e := move.Splat(op, x)
			w := widths[op]
			if w == 0 {
				if v != (api.Vec{}) || e != api.ErrArg {
					t.Errorf("%x: %x %d", op, v, e)
				}
				continue
			}
			for i := range 128 / w {
				if lane(v, w, i) != x<<(64-w)>>(64-w) || e != 0 {
					t.Errorf("%x of %x: %x %d", op, x, v, e)
				}
			}
		}
	}
	if v, _ := move.Splat(0xfd10, 70000); lane(v, 16, 7) != 4464 {
		t.Errorf("%x", v)
	}
}

// P7.2
func TestExtract(t *testing.T) {
	widths := map[int]int{0xfd15: 8, 0xfd16: 8, 0xfd18: 16, 0xfd19: 16, 0xfd1b: 32, 0xfd1d: 64}
	signed := map[int]bool{0xfd15: true, 0xfd18: true}
	for _, v := range []api.Vec{ramp(0, 1), ramp(255, -1), ramp(120, 9), ramp(0x7f, 1)} {
		for _, op := range opcodes() {
			for _, i := range []int{math.MinInt, -1, 0, 1, 2, 3, 4, 5, 7, 8, 9, 15, 16, 17, math.MaxInt} {
				w := widths[op]
				x, e := move.Extract(op, i, v)
				if w == 0 || i < 0 || i >= 128/w {
					if x != 0 || e != api.ErrArg {
						t.Errorf("%x %d: %x %d", op, i, x, e)
					}
					continue
				}
				want := lane(v, w, i)
				if signed[op] && want>>(w-1) == 1 {
					want |= math.MaxUint32 << w & math.MaxUint32
				}
				if x != want || e != 0 {
					t.Errorf("%x %d of %x: %x %d, want %x", op, i, v, x, e, want)
				}
			}
		}
	}
	if x, e := move.Extract(0xfd15, 0, ramp(255, 0)); x != 1<<32-1 || e != 0 {
		t.Error(x, e)
	}
	if x, e := move.Extract(0xfd16, 0, ramp(255, 0)); x != 255 || e != 0 {
		t.Error(x, e)
	}
}

// P7.2
func TestReplace(t *testing.T) {
	widths := map[int]int{0xfd17: 8, 0xfd1a: 16, 0xfd1c: 32, 0xfd1e: 64}
	const x = 0xfedcba9876543210
	v := ramp(3, 7)
	for _, op := range opcodes() {
		for _, i := range []int{math.MinInt, -1, 0, 1, 2, 3, 4, 5, 7, 8, 9, 15, 16, 17, math.MaxInt} {
			w := widths[op]
			got, e := move.Replace(op, i, v, x)
			if w == 0 || i < 0 || i >= 128/w {
				if got != (api.Vec{}) || e != api.ErrArg {
					t.Errorf("%x %d: %x %d", op, i, got, e)
				}
				continue
			}
			for k := range 128 / w {
				want := lane(v, w, k)
				if k == i {
					want = x << (64 - w) >> (64 - w)
				}
				if lane(got, w, k) != want || e != 0 {
					t.Errorf("%x %d: %x %d", op, i, got, e)
				}
			}
		}
	}
}

// P7.3
func TestShuffle(t *testing.T) {
	a, b := ramp(100, 1), ramp(200, 1)
	if v, e := move.Shuffle(ramp(0, 1), a, b); v != a || e != 0 {
		t.Error(v, e)
	}
	if v, e := move.Shuffle(ramp(16, 1), a, b); v != b || e != 0 {
		t.Error(v, e)
	}
	for step := range 32 {
		sel := ramp(step, step)
		for i := range sel {
			sel[i] %= 32
		}
		v, e := move.Shuffle(sel, a, b)
		for i, k := range sel {
			want := append(a[:], b[:]...)[k]
			if v[i] != want || e != 0 {
				t.Errorf("%x: %x %d", sel, v, e)
			}
		}
	}
	for i := range 16 {
		for _, bad := range []byte{32, 33, 128, 255} {
			sel := ramp(0, 1)
			sel[i] = bad
			if v, e := move.Shuffle(sel, a, b); v != (api.Vec{}) || e != api.ErrArg {
				t.Error(sel, v, e)
			}
		}
	}
}

// P7.3
func TestSwizzle(t *testing.T) {
	a := ramp(100, 1)
	for first := range 256 {
		b := ramp(first, 37)
		v := move.Swizzle(a, b)
		for i, k := range b {
			want := byte(0)
			if k < 16 {
				want = 100 + k
			}
			if v[i] != want {
				t.Errorf("%x: %x", b, v)
			}
		}
	}
	if v := move.Swizzle(a, ramp(16, 0)); v != (api.Vec{}) {
		t.Error(v)
	}
	if v := move.Swizzle(a, ramp(15, -1)); v != ramp(115, -1) {
		t.Error(v)
	}
}
