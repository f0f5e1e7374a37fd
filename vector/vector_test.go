package vector_test

import (
	"math"
	"slices"
	"testing"

	"plait/api"
	"plait/arith"
	"plait/compare"
	"plait/instr"
	"plait/move"
	"plait/pair"
	"plait/vector"
	"plait/widen"
)

const both = 0x0101010101010101

func opcodes() []int {
	list := []int{math.MinInt, math.MaxInt, -1, 1<<32 + 0xfd6e}
	for op := range 0x10100 {
		list = append(list, op)
	}
	return list
}

// P9.1
func TestIs(t *testing.T) {
	for _, op := range opcodes() {
		info, ok := instr.Of(op)
		want := ok && op >= 0xfd00 && info.Form != api.FormMem && info.Form != api.FormMemLane
		if vector.Is(op) != want {
			t.Errorf("%x", op)
		}
	}
	for _, op := range []int{0xfd00, 0xfd0b, 0xfd54, 0xfd5b, 0xfd5d, 0x6a, 0xfd13} {
		if vector.Is(op) {
			t.Errorf("%x", op)
		}
	}
}

func samples() []api.Vec {
	var vs []api.Vec
	for i := range 12 {
		var v api.Vec
		for k := range v {
			v[k] = byte(i*91 + k*(i*i*7+13))
		}
		vs = append(vs, v)
	}
	return append(vs, api.Vec{}, pair.Of(64, math.MaxUint64, math.MaxUint64), pair.Of(8, 128, 127, 255, 1, 0, 128), pair.Of(32, 1<<31, 1<<32-1, 1<<31-1))
}

// byLayers is the result by the layers below, found by the opcode's number.
func byLayers(op int, lane int, sel, a, b, c api.Vec, x uint64) (api.Vec, api.Errno) {
	n := op - 0xfd00
	num := func(x uint64, e api.Errno) (api.Vec, api.Errno) { return pair.Of(64, x), e }
	switch {
	case n == 0x0c:
		return sel, 0
	case n == 0x0d:
		return move.Shuffle(sel, a, b)
	case n == 0x0e:
		return move.Swizzle(a, b), 0
	case n >= 0x0f && n <= 0x12:
		return move.Splat(op, x)
	case n == 0x17 || n == 0x1a || n == 0x1c || n == 0x1e:
		return move.Replace(op, lane, a, x)
	case n >= 0x15 && n <= 0x1d:
		return num(move.Extract(op, lane, a))
	case n == 0x4d:
		return compare.Bits(op, a)
	case n >= 0x4e && n <= 0x51:
		return compare.Bits(op, a, b)
	case n == 0x52:
		return compare.Bits(op, a, b, c)
	case n == 0x53 || n == 0x63 || n == 0x64 || n == 0x83 || n == 0x84 || n == 0xa3 || n == 0xa4 || n == 0xc3 || n == 0xc4:
		k, e := compare.Test(op, a)
		return num(uint64(k), e)
	case n >= 0x23 && n <= 0x40 || n >= 0xd6 && n <= 0xdb:
		return compare.Cmp(op, a, b)
	case arith.Width(op) != 0:
		switch k := n % 32; {
		case k < 3:
			return arith.Un(op, a)
		case k < 14:
			return arith.Shift(op, a, uint32(x))
		}
		return arith.Bin(op, a, b)
	case n >= 0x7c && n <= 0x7f || n >= 0x87 && n <= 0x8a || n >= 0xa7 && n <= 0xaa || n >= 0xc7 && n <= 0xca:
		return widen.Un(op, a)
	}
	return widen.Bin(op, a, b)
}

// operands lays the operands' halves by the types: vectors in turn, then x.
func operands(types []int, x uint64, vs ...api.Vec) []uint64 {
	var hs []uint64
	for i, t := range types {
		if t == api.V128 {
			h := pair.Split(vs[i])
			hs = append(hs, h.Lo, h.Hi)
		} else {
			hs = append(hs, x)
		}
	}
	return hs
}

// P9.2: every instruction, by the layers below.
func TestDo(t *testing.T) {
	vs := samples()
	for op := 0xfd00; op < 0xfe00; op++ {
		if !vector.Is(op) {
			continue
		}
		info, _ := instr.Of(op)
		for i, a := range vs {
			for j, b := range vs {
				c, x := vs[(i+j+1)%len(vs)], uint64(i)*0x123456789abcdef+uint64(j)
				sel, lane := pair.Of(64, 0x1f03020105111500+uint64(i), 0x0706050403020100+uint64(j)), (i+j)%18-1
				h := pair.Split(sel)
				if info.Form == api.FormNone {
					lane, h.Lo, h.Hi = i, uint64(j), 99 // passed over
				}
				got, e := vector.Do(api.Instr{Op: op, A: lane, B: i, Lo: h.Lo, Hi: h.Hi, L: []int{1}}, operands(info.In, x, a, b, c)...)
				v, we := byLayers(op, lane, sel, a, b, c, x)
				var want []uint64
				if we == 0 {
					want = operands(info.Out, pair.Get(v, 64, 0), v)
				}
				if e != we || !slices.Equal(got, want) {
					t.Fatalf("%x: %x, %d, want %x, %d", op, got, e, want, we)
				}
			}
		}
	}
}

// P9.2: ErrArg of opcodes, numbers of halves, lanes and bytes.
func TestErrors(t *testing.T) {
	for _, op := range opcodes() {
		info, _ := instr.Of(op)
		need := len(operands(info.In, 1, make([]api.Vec, 3)...))
		for n := range 8 {
			hs, e := vector.Do(api.Instr{Op: op}, make([]uint64, n)...)
			if good := vector.Is(op) && n == need; good != (e == 0) || !good && (e != api.ErrArg || hs != nil) {
				t.Fatalf("%x of %d: %x, %d", op, n, hs, e)
			}
		}
	}
	for _, lane := range []int{math.MinInt, -1, 8, 9, 16, math.MaxInt} {
		if hs, e := vector.Do(api.Instr{Op: 0xfd18, A: lane}, 1, 2); hs != nil || e != api.ErrArg {
			t.Error(lane, hs, e)
		}
		if hs, e := vector.Do(api.Instr{Op: 0xfd1a, A: lane}, 1, 2, 3); hs != nil || e != api.ErrArg {
			t.Error(lane, hs, e)
		}
	}
	if hs, e := vector.Do(api.Instr{Op: 0xfd0d, Hi: 32}, 1, 2, 3, 4); hs != nil || e != api.ErrArg {
		t.Error(hs, e)
	}
}

// P9.2: the document's examples.
func TestExamples(t *testing.T) {
	rows := []struct {
		in   api.Instr
		hs   []uint64
		want []uint64
	}{
		{api.Instr{Op: 0xfd6e}, []uint64{both, both, 2 * both, 2 * both}, []uint64{3 * both, 3 * both}},
		{api.Instr{Op: 0xfd11}, []uint64{1<<32 + 5}, []uint64{0x0000000500000005, 0x0000000500000005}},
		{api.Instr{Op: 0xfd0c, Lo: 7, Hi: 8}, nil, []uint64{7, 8}},
		{api.Instr{Op: 0xfd1d, A: 1}, []uint64{7, 9}, []uint64{9}},
		{api.Instr{Op: 0xfd64}, []uint64{0x80, 0}, []uint64{1}},
		{api.Instr{Op: 0xfd6b}, []uint64{both, both, 1<<32 + 9}, []uint64{2 * both, 2 * both}},
	}
	for _, r := range rows {
		if hs, e := vector.Do(r.in, r.hs...); !slices.Equal(hs, r.want) || e != 0 {
			t.Errorf("%x: %x %d", r.in.Op, hs, e)
		}
	}
}

// P9.3
func TestMemory(t *testing.T) {
	hs := []uint64{1, 2, 3, 4, 5, 6}
	for _, n := range []int{0, 2, 4, 6} {
		in := api.Instr{Op: map[int]int{0: 0xfd0c, 2: 0xfd4d, 4: 0xfd51, 6: 0xfd52}[n]}
		part := hs[:n]
		one, _ := vector.Do(in, part...)
		two, _ := vector.Do(in, part...)
		one[0] = 77
		one = append(one[:0], 78, 79)
		if two[0] == 77 || two[0] == 78 || !slices.Equal(hs, []uint64{1, 2, 3, 4, 5, 6}) {
			t.Error(n, one, two, hs)
		}
	}
}
