package permute_test

import (
	"math"
	"slices"
	"testing"

	"plait/api"
	"plait/arith"
	"plait/compare"
	"plait/instr"
	"plait/permute"
	"plait/store"
	"plait/trial"
	"plait/vector"
)

// mine tells whether op is one of chapter 9's that chapters 5 and 6 don't have.
func mine(op int) bool {
	if !vector.Is(op) || arith.Width(op) != 0 {
		return false
	}
	var v api.Vec
	for n := range 4 {
		if _, e := compare.Bits(op, make([]api.Vec, n)...); e == 0 {
			return false
		}
	}
	_, e1 := compare.Cmp(op, v, v)
	_, e2 := compare.Test(op, v)
	return e1 != 0 && e2 != 0
}

// lanes tells the number of lanes of an instruction that names one.
func lanes(op int) int {
	info, _ := instr.Of(op)
	return info.Limit
}

// P23.1
func TestIs(t *testing.T) {
	for op := -0x200; op < 0x10200; op++ {
		if permute.Is(op) != mine(op) {
			t.Errorf("%x", op)
		}
		cells, n, e := permute.Seq(api.Instr{Op: op, L: []int{1}}, 0)
		if good := mine(op); good != (e == 0) || !good && (e != api.ErrArg || cells != nil || n != 0) {
			t.Errorf("%x: %d cells, %d, %d", op, len(cells), n, e)
		}
	}
	for _, op := range []int{math.MinInt, math.MaxInt, 1<<32 + 0xfd0f, 0xfd6e, 0xfd00, 0x6a} {
		if _, _, e := permute.Seq(api.Instr{Op: op}, 0); permute.Is(op) || e != api.ErrArg {
			t.Errorf("%x", op)
		}
	}
	for base, want := range map[int]api.Errno{0: 0, 1: 0, 4032: 0, -1: api.ErrArg, 4033: api.ErrArg, math.MinInt: api.ErrArg, math.MaxInt: api.ErrArg} {
		cells, n, e := permute.Seq(api.Instr{Op: 0xfd0e}, base)
		if e != want || e != 0 && (cells != nil || n != 0) {
			t.Error(base, e)
		}
	}
}

// P23.1: lanes and bytes that aren't there, and fields that don't matter.
func TestFields(t *testing.T) {
	for op := 0xfd00; op < 0xfe00; op++ {
		if !mine(op) {
			continue
		}
		n := lanes(op)
		for _, a := range []int{math.MinInt, -1, 0, 1, 2, 3, 4, 7, 8, 15, 16, 17, math.MaxInt} {
			want := api.OK
			if n != 0 && (a < 0 || a >= n) {
				want = api.ErrArg
			}
			if _, _, e := permute.Seq(api.Instr{Op: op, A: a, B: -5, L: []int{9}}, 0); e != want {
				t.Errorf("%x %d: %d", op, a, e)
			}
		}
		for i := range 16 {
			for _, k := range []uint64{31, 32, 64, 128, 255} {
				in := api.Instr{Op: op, Lo: k << (8 * i)}
				if i >= 8 {
					in.Lo, in.Hi = 0, k<<(8*(i-8))
				}
				want := api.OK
				if op == 0xfd0d && k > 31 {
					want = api.ErrArg
				}
				if _, _, e := permute.Seq(in, 0); e != want {
					t.Errorf("%x %x %x: %d", op, in.Lo, in.Hi, e)
				}
			}
		}
	}
}

// instrs are instructions of an opcode, with all that may stand in them.
func instrs(op int) []api.Instr {
	info, _ := instr.Of(op)
	switch info.Form {
	case api.FormLane:
		var all []api.Instr
		for a := range info.Limit {
			all = append(all, api.Instr{Op: op, A: a})
		}
		return all
	case api.FormV128:
		return []api.Instr{{Op: op}, {Op: op, Lo: 3, Hi: 4}, {Op: op, Lo: math.MaxUint64, Hi: 1 << 63}}
	case api.FormShuffle:
		all := []api.Instr{{Op: op}, {Op: op, Lo: 0x0706050403020100, Hi: 0x0f0e0d0c0b0a0908}, {Op: op, Lo: 0x1716151413121110, Hi: 0x1f1e1d1c1b1a1918}, {Op: op, Lo: 0x0001020304050607, Hi: 0x18191a1b1c1d1e1f}}
		x := uint64(88172645463325252)
		for range 60 {
			x ^= x << 13
			x ^= x >> 7
			x ^= x << 17
			all = append(all, api.Instr{Op: op, Lo: x & 0x1f1f1f1f1f1f1f1f, Hi: x >> 3 & 0x1f1f1f1f1f1f1f1f})
		}
		return all
	}
	return []api.Instr{{Op: op, A: 5, Lo: 9}}
}

// halves are halves in which lanes of all widths stand at their ends.
func halves() []uint64 {
	xs := []uint64{0, math.MaxUint64, 0x8000000000000000, 0x7fffffffffffffff, 0x0706050403020100, 0x0f0e0d0c0b0a0908, 0x80ff7f0100fe8102, 0x8000000180007fff, 0x7fffffff80000000, 0xff00ff00ff00ff00, 0x0001ffff7fff8000, 0x007f0080ff80ff7f, 0x00ff0100ffff8000, 0x8000800080008000, 0x00007fff00008000, 0xffff8000ffff7fff, 0x0000ffff00010000, 0x4000400040004000, 0x1f2f3f4f5f6f7f8f}
	x := uint64(88172645463325252)
	for range 8 {
		x ^= x << 13
		x ^= x >> 7
		x ^= x << 17
		xs = append(xs, x)
	}
	return xs
}

// rows gives operands for the types of an instruction, all pairs of halves.
func rows(types []int) [][]uint64 {
	if len(types) == 0 {
		return [][]uint64{nil}
	}
	var all [][]uint64
	hs := halves()
	for i, x := range hs {
		for j, y := range hs {
			vs := []uint64{x, hs[(i*7+j*3+1)%len(hs)], y, hs[(i+j*5+2)%len(hs)]}
			var row []uint64
			for _, typ := range types {
				switch typ {
				case api.V128:
					row, vs = append(row, vs[:2]...), vs[2:]
				case api.I64:
					row, vs = append(row, vs[0]), vs[1:]
				default:
					row, vs = append(row, uint64(uint32(vs[0]))), vs[1:]
				}
			}
			all = append(all, row)
		}
	}
	return all
}

// P23.2: what a sequence does is what layer 9 says, in any state.
func TestSequences(t *testing.T) {
	s, _ := store.New(api.Module{Start: -1})
	for op := 0xfd00; op < 0xfe00; op++ {
		if !mine(op) {
			continue
		}
		info, _ := instr.Of(op)
		ins := instrs(op)
		for i, base := range []int{0, 5, 300, 4032} {
			for j, in := range ins {
				cells, n, e := permute.Seq(in, base)
				if e != 0 {
					t.Fatalf("%x: %d", op, e)
				}
				q := trial.Sequence{Cells: cells, Base: base, Used: n}
				if n > api.MaxScratch || len(cells) > 1024 || !q.Straight(false) {
					t.Errorf("%x: %d cells, %d locals", op, len(cells), n)
				}
				for k, row := range rows(info.In) {
					if (i > 0 || len(ins) > 4) && (k+i+j)%53 != 0 {
						continue
					}
					want, _ := vector.Do(in, row...)
					q.Operands, q.Results = row, len(want)
					got, e, kept := q.Run(s)
					if e != 0 || !kept || !slices.Equal(got, want) {
						t.Fatalf("%v of %x, base %d: %x, %d, %v, want %x", in, row, base, got, e, kept, want)
					}
				}
			}
		}
	}
}

// P23.2: swizzle by every number.
func TestSwizzle(t *testing.T) {
	s, _ := store.New(api.Module{Start: -1})
	cells, n, _ := permute.Seq(api.Instr{Op: 0xfd0e}, 0)
	for k := range uint64(256) {
		row := []uint64{0x8877665544332211, 0xffeeddccbbaa9900, k * 0x0101010101010101, 0x0706050403020100 + k<<56}
		want, _ := vector.Do(api.Instr{Op: 0xfd0e}, row...)
		if got, e, kept := (trial.Sequence{Cells: cells, Used: n, Operands: row, Results: 2}).Run(s); e != 0 || !kept || !slices.Equal(got, want) {
			t.Errorf("%x: %x, %d, want %x", row, got, e, want)
		}
	}
}

// P23.2: narrow by every lane of 16 bits.
func TestNarrow(t *testing.T) {
	s, _ := store.New(api.Module{Start: -1})
	for _, op := range []int{0xfd65, 0xfd66} {
		cells, n, _ := permute.Seq(api.Instr{Op: op}, 0)
		for k := uint64(0); k < 1<<16; k += 16 {
			pack := func(x uint64) uint64 { return x | (x+1)<<16 | (x+2)<<32 | (x+3)<<48 }
			row := []uint64{pack(k), pack(k + 4), pack(k + 8), pack(k + 12)}
			want, _ := vector.Do(api.Instr{Op: op}, row...)
			if got, e, kept := (trial.Sequence{Cells: cells, Used: n, Operands: row, Results: 2}).Run(s); e != 0 || !kept || !slices.Equal(got, want) {
				t.Fatalf("%x: %x, %d, want %x", row, got, e, want)
			}
		}
	}
}

// P23.3
func TestMemory(t *testing.T) {
	in := api.Instr{Op: 0xfd15, A: 5, L: []int{7}}
	one, n, _ := permute.Seq(in, 9)
	two, k, _ := permute.Seq(in, 9)
	if n != k || !slices.Equal(one, two) || in.L[0] != 7 {
		t.Error("the answer hangs on more than the instruction and the base")
	}
	one[0].Op = -1
	if three, _, _ := permute.Seq(in, 9); two[0].Op == -1 || three[0].Op == -1 {
		t.Error("memory is shared")
	}
}

// P23.1, P23.2: the document's examples.
func TestExamples(t *testing.T) {
	s, _ := store.New(api.Module{Start: -1})
	for _, r := range []struct {
		in        api.Instr
		row, want []uint64
	}{
		{api.Instr{Op: 0xfd0c, Lo: 3, Hi: 4}, nil, []uint64{3, 4}}, {api.Instr{Op: 0xfd0f}, []uint64{1<<31 + 5}, []uint64{0x0505050505050505, 0x0505050505050505}}, {api.Instr{Op: 0xfd1d, A: 1}, []uint64{7, 9}, []uint64{9}},
		{api.Instr{Op: 0xfd85}, []uint64{70000 * (1<<32 + 1), 70000 * (1<<32 + 1), 0, 0}, []uint64{0x7fff7fff7fff7fff, 0}},
	} {
		cells, n, _ := permute.Seq(r.in, 0)
		got, e, kept := trial.Sequence{Cells: cells, Used: n, Operands: r.row, Results: len(r.want)}.Run(s)
		if e != 0 || !kept || !slices.Equal(got, r.want) {
			t.Errorf("%v: %x", r.in, got)
		}
	}
	for _, in := range []api.Instr{{Op: 0xfd6e}, {Op: 0xfd00}, {Op: 0xfd15, A: 16}, {Op: 0xfd0d, Lo: 32}} {
		if cells, n, e := permute.Seq(in, 0); cells != nil || n != 0 || e != api.ErrArg {
			t.Error(in, e)
		}
	}
}
