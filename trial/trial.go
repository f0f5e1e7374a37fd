// Package trial runs a sequence of cells on the machine of the flat code, in a
// state in which all else can be told apart from what the sequence may change.
// The tests of the layers that make sequences use it.
package trial

import (
	"slices"

	"plait/api"
	"plait/cells"
	"plait/exec"
	"plait/host"
	"plait/store"
)

// The numbers that lie below the operands, and in the locals.
const (
	belowMark = 0xb0b0b0b000000000
	localMark = 0x1c1c1c1c00000000
	below     = 3
)

// Sequence is a sequence for operands, whose scratch locals are Used locals
// from Base on.
type Sequence struct {
	Cells      []api.Cell
	Base, Used int
	Operands   []uint64
	Results    int
}

// Run runs a sequence over a store. It answers the results, how the run ended,
// and whether all that lay below the results, and all locals that are no
// scratch locals, are as they were.
func (s Sequence) Run(over *store.Store) ([]uint64, api.Errno, bool) {
	locals := s.watched()
	var before, after []api.Cell
	var marks []uint64
	for _, l := range locals {
		before = append(before, constant(localMark+uint64(l)), api.Cell{Op: cells.Set, A: l})
		if l < s.Base || l >= s.Base+s.Used {
			after = append(after, api.Cell{Op: cells.Get, A: l})
			marks = append(marks, localMark+uint64(l))
		}
	}
	var lowest []uint64
	for i := range uint64(below) {
		lowest = append(lowest, belowMark+i)
	}
	for _, x := range slices.Concat(lowest, s.Operands) {
		before = append(before, constant(x))
	}
	after = append(after, api.Cell{Op: cells.Return})
	out := below + s.Results + len(marks)
	p := api.Prog{
		Sigs:  []api.Sig{{Out: slices.Repeat([]int{api.I64}, out)}},
		Funcs: []api.Fn{{Host: -1, Out: out, Locals: s.Base + api.MaxScratch, Cells: slices.Concat(before, s.Cells, after)}},
	}
	end := exec.New(p, over, host.New()).Run(0, nil, 0)
	if end.Err != api.OK {
		return nil, end.Err, true
	}
	kept := slices.Equal(end.Results[:below], lowest) && slices.Equal(end.Results[below+s.Results:], marks)
	return end.Results[below : below+s.Results], api.OK, kept
}

// watched are the locals that are marked: those about the scratch locals, and
// the first ones.
func (s Sequence) watched() []int {
	var all []int
	for l := range s.Base + api.MaxScratch {
		if l < 8 || l >= s.Base-8 {
			all = append(all, l)
		}
	}
	return all
}

// Straight tells whether each cell is of a straight sequence, whose locals are
// the Used ones from Base on, or one of the accesses of numbers, if they may
// stand there.
func (s Sequence) Straight(accesses bool) bool {
	for _, c := range s.Cells {
		switch {
		case c.Op == cells.Drop || c.Op == cells.Select || c.Op == cells.Const:
		case c.Op == cells.Get || c.Op == cells.Set || c.Op == cells.Tee:
			if c.A < s.Base || c.A >= s.Base+s.Used {
				return false
			}
		case c.Op >= 0x28 && c.Op <= 0x3e && cells.Scalar(c.Op):
			if !accesses {
				return false
			}
		case c.Op >= 0x6d && c.Op <= 0x70 || c.Op >= 0x7f && c.Op <= 0x82:
			return false
		case c.Op < 0x45 || c.Op > 0xc4 || !cells.Scalar(c.Op):
			return false
		}
	}
	return true
}

// constant is a cell that gives a number.
func constant(n uint64) api.Cell {
	return api.Cell{Op: cells.Const, N: n}
}
