// Package tape is what lays cells: a row that grows, scratch locals that are
// handed out, and values, which are pieces of code that leave one number.
package tape

import (
	"plait/api"
	"plait/cells"
)

// Tape is a row of cells that grows.
type Tape struct {
	Cells []api.Cell
}

// Lay lays cells at the end.
func (t *Tape) Lay(row ...api.Cell) {
	t.Cells = append(t.Cells, row...)
}

// Scratch hands out the locals from a base on.
type Scratch struct {
	base, used int
}

// Fresh hands out a local that no one else has.
func (s *Scratch) Fresh() int {
	s.used++
	return s.base + s.used - 1
}

// Used tells how many locals were handed out.
func (s *Scratch) Used() int {
	return s.used
}

// Maker lays cells that may use scratch locals.
type Maker struct {
	Tape
	Scratch
}

// New makes a maker whose scratch locals begin at base.
func New(base int) *Maker {
	return &Maker{Scratch: Scratch{base: base}}
}

// Put lays values, which leaves their numbers on the stack, the last on top.
func (m *Maker) Put(vs ...Value) {
	for _, v := range vs {
		v(&m.Tape)
	}
}

// Keep lays a value into a fresh local, and gives what reads it.
func (m *Maker) Keep(v Value) Value {
	m.Put(v)
	return m.pop()
}

// Take takes the top n operands into fresh locals, and gives what reads them,
// the lowest first.
func (m *Maker) Take(n int) []Value {
	vs := make([]Value, n)
	for i := range n {
		vs[n-1-i] = m.pop()
	}
	return vs
}

// pop takes the top operand into a fresh local.
func (m *Maker) pop() Value {
	local := m.Fresh()
	m.Lay(api.Cell{Op: cells.Set, A: local})
	return Local(local)
}
