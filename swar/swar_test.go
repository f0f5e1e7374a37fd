package swar_test

import (
	"math"
	"slices"
	"testing"

	"plait/api"
	"plait/arith"
	"plait/instr"
	"plait/store"
	"plait/swar"
	"plait/trial"
	"plait/vector"
)

// mine tells, by the tables of chapters 5 and 6, whether op is of this layer.
func mine(op int) bool {
	n := op - 0xfd00
	switch {
	case arith.Width(op) != 0, n >= 35 && n <= 64, n >= 214 && n <= 219, n >= 77 && n <= 83:
		return true
	}
	for _, k := range []int{99, 100, 131, 132, 163, 164, 195, 196} {
		if n == k {
			return true
		}
	}
	return false
}

// P22.1
func TestIs(t *testing.T) {
	for op := -0x200; op < 0x10200; op++ {
		if swar.Is(op) != mine(op) {
			t.Errorf("%x", op)
		}
		cells, n, e := swar.Seq(api.Instr{Op: op, A: 3, B: -1, Lo: 1 << 60, Hi: 7, L: []int{1}}, 0)
		if good := mine(op); good != (e == 0) || !good && (e != api.ErrArg || cells != nil || n != 0) {
			t.Errorf("%x: %d cells, %d, %d", op, len(cells), n, e)
		}
	}
	for _, op := range []int{math.MinInt, math.MaxInt, 1<<32 + 0xfd6e, 0xfd0d, 0x6a} {
		if _, _, e := swar.Seq(api.Instr{Op: op}, 0); swar.Is(op) || e != api.ErrArg {
			t.Errorf("%x", op)
		}
	}
	for base, want := range map[int]api.Errno{0: 0, 1: 0, 4032: 0, -1: api.ErrArg, 4033: api.ErrArg, math.MinInt: api.ErrArg, math.MaxInt: api.ErrArg} {
		cells, n, e := swar.Seq(api.Instr{Op: 0xfd6e}, base)
		if e != want || e != 0 && (cells != nil || n != 0) {
			t.Error(base, e)
		}
	}
}

// halves are pairs of halves in which lanes of all widths stand at their ends.
func halves() []uint64 {
	xs := []uint64{0, math.MaxUint64, 0x8000000000000000, 0x7fffffffffffffff, 0x0123456789abcdef, 0xfedcba9876543210, 0x80ff7f0100fe8102, 0x8000000180007fff, 0x7fffffff80000000, 0xff00ff00ff00ff00, 0x0001ffff7fff8000, 0x0101010101010101, 0x8080808080808080, 0x7f7f7f7f7f7f7f7f, 0xfffffffffffffffe, 0x00000000ffffffff}
	x := uint64(88172645463325252)
	for range 10 { // numbers without a shape
		x ^= x << 13
		x ^= x >> 7
		x ^= x << 17
		xs = append(xs, x)
	}
	return xs
}

// places are how far lanes are moved.
var places = []uint64{0, 1, 7, 8, 9, 15, 16, 31, 32, 33, 63, 64, 65, 255, 1 << 31, math.MaxUint32}

// rows gives operands for the types of an instruction, all pairs of halves.
func rows(types []int) [][]uint64 {
	var all [][]uint64
	hs := halves()
	for i, x := range hs {
		for j, y := range hs {
			z := hs[(i*7+j*3+1)%len(hs)]
			vs := []uint64{x, z, y, hs[(i+j*5+2)%len(hs)], z, x}
			var row []uint64
			for _, typ := range types {
				if typ == api.V128 {
					row, vs = append(row, vs[:2]...), vs[2:]
				} else {
					row = append(row, places[(i*len(hs)+j)%len(places)])
				}
			}
			all = append(all, row)
		}
	}
	return all
}

// P22.2: what a sequence does is what layer 9 says, in any state.
func TestSequences(t *testing.T) {
	s, _ := store.New(api.Module{Start: -1})
	for op := 0xfd00; op < 0xfe00; op++ {
		if !mine(op) {
			continue
		}
		info, _ := instr.Of(op)
		for i, base := range []int{0, 5, 300, 4032} {
			cells, n, e := swar.Seq(api.Instr{Op: op}, base)
			if e != 0 {
				t.Fatalf("%x: %d", op, e)
			}
			q := trial.Sequence{Cells: cells, Base: base, Used: n}
			if n > api.MaxScratch || len(cells) > 1024 || !q.Straight(false) {
				t.Errorf("%x: %d cells, %d locals", op, len(cells), n)
			}
			for k, row := range rows(info.In) {
				if i > 0 && k%97 != 0 {
					continue
				}
				want, _ := vector.Do(api.Instr{Op: op}, row...)
				q.Operands, q.Results = row, len(want)
				got, e, kept := q.Run(s)
				if e != 0 || !kept || !slices.Equal(got, want) {
					t.Fatalf("%x of %x, base %d: %x, %d, %v, want %x", op, row, base, got, e, kept, want)
				}
			}
		}
	}
}

// P22.2: bytes, by all pairs of them, for what carries from lane to lane.
func TestBytes(t *testing.T) {
	s, _ := store.New(api.Module{Start: -1})
	for _, op := range []int{0xfd6e, 0xfd6f, 0xfd70, 0xfd71, 0xfd72, 0xfd73, 0xfd76, 0xfd77, 0xfd78, 0xfd79, 0xfd7b, 0xfd23, 0xfd24, 0xfd25, 0xfd26, 0xfd27, 0xfd28, 0xfd29, 0xfd2a, 0xfd2b, 0xfd2c} {
		cells, n, _ := swar.Seq(api.Instr{Op: op}, 0)
		q := trial.Sequence{Cells: cells, Used: n, Results: 2}
		const ones = 0x0101010101010101
		for x := range uint64(16) {
			for y := range uint64(256) {
				// The bytes of a go through x and 16 steps on, those of b stand at y.
				row := []uint64{0x7060504030201000 + x*ones, 0xf0e0d0c0b0a09080 + x*ones, y * ones, y * ones}
				want, _ := vector.Do(api.Instr{Op: op}, row...)
				q.Operands = row
				if got, e, kept := q.Run(s); e != 0 || !kept || !slices.Equal(got, want) {
					t.Fatalf("%x of %x: %x, %d, want %x", op, row, got, e, want)
				}
			}
		}
	}
}

// P22.3
func TestLengths(t *testing.T) {
	for _, op := range []int{0xfd6e, 0xfd71, 0xfd61, 0xfd23, 0xfd24, 0xfd6b, 0xfd6d, 0xfd7b, 0xfd62} {
		for _, base := range []int{0, 4032} {
			if cells, _, e := swar.Seq(api.Instr{Op: op}, base); e != 0 || len(cells) > api.MaxSwarCells {
				t.Errorf("%x: %d cells", op, len(cells))
			}
		}
	}
}

// P22.4
func TestMemory(t *testing.T) {
	in := api.Instr{Op: 0xfd6e, A: 5, Lo: 6, L: []int{7}}
	one, n, _ := swar.Seq(in, 9)
	two, k, _ := swar.Seq(api.Instr{Op: 0xfd6e}, 9)
	if n != k || !slices.Equal(one, two) || in.L[0] != 7 {
		t.Error("the answer hangs on more than the opcode and the base")
	}
	one[0].Op = -1
	if three, _, _ := swar.Seq(in, 9); two[0].Op == -1 || three[0].Op == -1 {
		t.Error("memory is shared")
	}
}

// P22.2: the document's examples.
func TestExamples(t *testing.T) {
	s, _ := store.New(api.Module{Start: -1})
	for _, r := range []struct {
		op        int
		row, want []uint64
	}{
		{0xfdce, []uint64{3, 4, 5, 6}, []uint64{8, 10}}, {0xfd23, []uint64{5, 0, 5, 1}, []uint64{0xffffffffffffffff, 0xffffffffffffff00}}, {0xfd53, []uint64{0, 0}, []uint64{0}},
	} {
		cells, n, _ := swar.Seq(api.Instr{Op: r.op}, 0)
		got, e, kept := trial.Sequence{Cells: cells, Used: n, Operands: r.row, Results: len(r.want)}.Run(s)
		if e != 0 || !kept || !slices.Equal(got, r.want) {
			t.Errorf("%x: %x", r.op, got)
		}
	}
}
