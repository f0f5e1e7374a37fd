package memlow_test

import (
	"bytes"
	"math"
	"slices"
	"testing"

	"plait/api"
	"plait/instr"
	"plait/memlow"
	"plait/pair"
	"plait/store"
	"plait/trial"
	"plait/vmem"
)

const page = api.PageBytes

func hasLane(op int) bool { return op >= 0xfd54 && op <= 0xfd5b }

func isStore(op int) bool { return op == 0xfd0b || op >= 0xfd58 && op <= 0xfd5b }

// ops are the opcodes of chapter 11's table.
func ops() []int {
	var all []int
	for op := 0xfd00; op < 0xfe00; op++ {
		if vmem.Size(op) != 0 {
			all = append(all, op)
		}
	}
	return all
}

// filled is a store with a memory of one page whose bytes differ about its ends.
func filled(t *testing.T) *store.Store {
	t.Helper()
	s, e := store.New(api.Module{Start: -1, Mems: []api.Limits{{Min: 1, Max: 1}}})
	if e != 0 {
		t.Fatal(e)
	}
	for at := range 300 {
		s.Memory().Store(uint64(at), 1, uint64(at*151+at/7+0x7f))
		s.Memory().Store(uint64(page-1-at), 1, uint64(at*77+3))
	}
	return s
}

// ends are the bytes about the memory's ends.
func ends(s *store.Store) []byte {
	lo, _ := s.Memory().Peek(0, 4096)
	hi, _ := s.Memory().Peek(page-4096, 4096)
	return append(lo, hi...)
}

// P24.1
func TestIs(t *testing.T) {
	for op := -0x200; op < 0x10200; op++ {
		want := vmem.Size(op) != 0
		cells, n, e := memlow.Seq(api.Instr{Op: op, A: -7, Hi: 5, L: []int{1}}, 0)
		if memlow.Is(op) != want || want != (e == 0) || !want && (e != api.ErrArg || cells != nil || n != 0) {
			t.Errorf("%x: %v, %d", op, memlow.Is(op), e)
		}
	}
	for _, op := range []int{math.MinInt, math.MaxInt, 1<<32 + 0xfd00, 0x28, 0xfd6e} {
		if _, _, e := memlow.Seq(api.Instr{Op: op}, 0); memlow.Is(op) || e != api.ErrArg {
			t.Errorf("%x", op)
		}
	}
}

// P24.1: bases, offsets and lanes.
func TestFields(t *testing.T) {
	check := func(in api.Instr, base int, want api.Errno) {
		t.Helper()
		cells, n, e := memlow.Seq(in, base)
		if e != want || e != 0 && (cells != nil || n != 0) {
			t.Errorf("%v, %d: %d, want %d", in, base, e, want)
		}
	}
	for _, op := range ops() {
		for base, want := range map[int]api.Errno{0: 0, 4032: 0, -1: api.ErrArg, 4033: api.ErrArg, math.MinInt: api.ErrArg, math.MaxInt: api.ErrArg} {
			check(api.Instr{Op: op}, base, want)
		}
		for b, want := range map[int]api.Errno{0: 0, 1<<32 - 1: 0, -1: api.ErrArg, 1 << 32: api.ErrArg, math.MinInt: api.ErrArg, math.MaxInt: api.ErrArg} {
			check(api.Instr{Op: op, B: b}, 0, want)
		}
		for _, lane := range []uint64{0, 1, 2, 3, 4, 7, 8, 15, 16, 17, 1 << 32, 1 << 63, math.MaxUint64} {
			want := api.OK
			if hasLane(op) && lane >= uint64(16/vmem.Size(op)) {
				want = api.ErrArg
			}
			check(api.Instr{Op: op, Lo: lane}, 0, want)
		}
	}
}

// operands are an address, and a vector's halves where the instruction takes
// one.
func operands(op int, addr uint32) []uint64 {
	row := []uint64{uint64(addr), 0x1122334455667788, 0x99aabbccddeeff00}
	if info, _ := instr.Of(op); len(info.In) == 1 {
		return row[:1]
	}
	return row
}

// agree runs a sequence and the instruction itself over like memories.
func agree(t *testing.T, in api.Instr, addr uint32, base int) {
	t.Helper()
	one, two := filled(t), filled(t)
	cells, n, e := memlow.Seq(in, base)
	if e != 0 {
		t.Fatalf("%v: %d", in, e)
	}
	v := pair.Of(64, 0x1122334455667788, 0x99aabbccddeeff00)
	var want []uint64
	var we api.Errno
	if isStore(in.Op) {
		we = vmem.Store(one.Memory(), in, addr, v)
	} else if v, we = vmem.Load(one.Memory(), in, addr, v); we == 0 {
		want = pair.All(v, 64)
	}
	q := trial.Sequence{Cells: cells, Base: base, Used: n, Operands: operands(in.Op, addr), Results: len(want)}
	if n > api.MaxScratch || len(cells) > 256 || !q.Straight(true) {
		t.Errorf("%x: %d cells, %d locals", in.Op, len(cells), n)
	}
	got, e, kept := q.Run(two)
	if e != we || !kept || !slices.Equal(got, want) || !bytes.Equal(ends(one), ends(two)) {
		t.Errorf("%v at %d, base %d: %x, %d, %v, want %x, %d", in, addr, base, got, e, kept, want, we)
	}
}

// P24.2: what a sequence does is what layer 11 says, in memory and beyond it.
func TestSequences(t *testing.T) {
	for _, op := range ops() {
		n := vmem.Size(op)
		for lane := range uint64(16 / n) {
			in := api.Instr{Op: op, A: 2, Lo: lane}
			for _, at := range []int{0, 3, 100, page - n, page - n + 1, page - 1, page} {
				for _, offset := range []int{0, at / 2, at} {
					in.B = offset
					agree(t, in, uint32(at-offset), 0)
				}
			}
			in.B = 5
			for _, base := range []int{1, 70, 4032} {
				agree(t, in, 90, base)
			}
			if !hasLane(op) {
				break
			}
		}
	}
}

// P24.2: traps at every address about the end, and far from it; no byte has
// changed then.
func TestBounds(t *testing.T) {
	for _, op := range ops() {
		for at := page - 17; at <= page+2; at++ {
			agree(t, api.Instr{Op: op}, uint32(at), 0)
		}
		for _, r := range [][2]int{{0, 1<<32 - 1}, {1<<32 - 1, 0}, {1<<32 - 1, 1<<32 - 1}, {1<<32 - 1, 1}, {1<<32 - 8, 8}, {1<<32 - 16, 8}, {1 << 31, 1 << 31}, {1, 1<<32 - 1}} {
			agree(t, api.Instr{Op: op, B: r[1]}, uint32(r[0]), 0)
		}
	}
}

// P24.2: a memory without pages, and one that has grown.
func TestSizes(t *testing.T) {
	for _, op := range ops() {
		s, _ := store.New(api.Module{Start: -1, Mems: []api.Limits{{Min: 0, Max: 3}}})
		cells, n, _ := memlow.Seq(api.Instr{Op: op}, 0)
		info, _ := instr.Of(op)
		q := trial.Sequence{Cells: cells, Used: n, Operands: operands(op, 0), Results: 2 * len(info.Out)}
		if _, e, _ := q.Run(s); e != api.TrapBounds {
			t.Errorf("%x: %d", op, e)
		}
		s.Memory().Grow(2)
		q.Operands[0] = uint64(2*page - vmem.Size(op))
		if _, e, kept := q.Run(s); e != 0 || !kept {
			t.Errorf("%x: %d", op, e)
		}
		q.Operands[0]++
		if _, e, _ := q.Run(s); e != api.TrapBounds {
			t.Errorf("%x: %d", op, e)
		}
	}
}

// P24.3
func TestMemory(t *testing.T) {
	in := api.Instr{Op: 0xfd54, B: 5, Lo: 3, L: []int{7}}
	one, n, _ := memlow.Seq(in, 9)
	two, k, _ := memlow.Seq(in, 9)
	if n != k || !slices.Equal(one, two) || in.L[0] != 7 {
		t.Error("the answer hangs on more than the instruction and the base")
	}
	one[0].Op = -1
	if three, _, _ := memlow.Seq(in, 9); two[0].Op == -1 || three[0].Op == -1 {
		t.Error("memory is shared")
	}
}

// P24.1, P24.2: the document's examples.
func TestExamples(t *testing.T) {
	s := filled(t)
	before := ends(s)
	cells, n, _ := memlow.Seq(api.Instr{Op: 0xfd0b}, 0)
	if _, e, _ := (trial.Sequence{Cells: cells, Used: n, Operands: []uint64{65521, 1, 2}}).Run(s); e != api.TrapBounds || !bytes.Equal(before, ends(s)) {
		t.Error(e)
	}
	s.Memory().Poke(0, []byte{0xff, 1})
	cells, n, _ = memlow.Seq(api.Instr{Op: 0xfd01}, 0)
	if got, e, _ := (trial.Sequence{Cells: cells, Used: n, Operands: []uint64{0}, Results: 2}).Run(s); e != 0 || uint32(got[0]) != 0x0001ffff {
		t.Error(got, e)
	}
	for _, in := range []api.Instr{{Op: 0xfd00, B: 1 << 32}, {Op: 0xfd54, Lo: 16}, {Op: 0x28}} {
		if _, _, e := memlow.Seq(in, 0); e != api.ErrArg {
			t.Error(in, e)
		}
	}
}
