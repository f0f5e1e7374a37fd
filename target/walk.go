package target

import (
	"plait/api"
	"plait/cells"
)

// nowhere is the height where no way comes.
const nowhere = -1

// walk goes all ways through a function.
type walk struct {
	prog    api.Prog
	fn      api.Fn
	heights []int
	todo    []int // cells that a way has come to and not gone on from
}

// newWalk begins a walk at the first cell.
func newWalk(p api.Prog, fn api.Fn) *walk {
	w := &walk{prog: p, fn: fn}
	for range fn.Cells {
		w.heights = append(w.heights, nowhere)
	}
	w.come(0, 0)
	return w
}

// all goes all ways to their ends; false, if one can't be gone.
func (w *walk) all() bool {
	for len(w.todo) > 0 {
		last := len(w.todo) - 1
		at := w.todo[last]
		w.todo = w.todo[:last]
		if !w.step(at) {
			return false
		}
	}
	return true
}

// come notes that a way comes to a cell with a height; false, if it can't.
func (w *walk) come(at, height int) bool {
	if at >= len(w.heights) {
		return false
	}
	if w.heights[at] == nowhere {
		w.heights[at] = height
		w.todo = append(w.todo, at)
	}
	return w.heights[at] == height
}

// step goes on from a cell to all those to which it may go.
func (w *walk) step(at int) bool {
	c := w.fn.Cells[at]
	takes, gives := cells.Effect(w.prog, w.fn, c)
	height := w.heights[at] - takes
	if height < 0 {
		return false
	}
	height += gives
	switch c.Op {
	case cells.Unreachable, cells.Return:
		return true
	case cells.Jump:
		return w.come(c.A, height)
	case cells.JumpIf:
		return w.come(c.A, height) && w.come(at+1, height)
	case cells.Table:
		for i := range c.A + 1 {
			if !w.come(at+1+i, height) {
				return false
			}
		}
		return true
	}
	return w.come(at+1, height)
}
