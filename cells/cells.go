// Package cells holds the opcodes of the flat code, and how many operands each
// cell takes and gives.
package cells

import (
	"plait/access"
	"plait/api"
	"plait/num"
)

// The opcodes that are neither operators nor accesses of numbers.
const (
	Unreachable  = 0x00
	Jump         = 0x0c
	JumpIf       = 0x0d
	Table        = 0x0e
	Return       = 0x0f
	Call         = 0x10
	CallIndirect = 0x11
	Drop         = 0x1a
	Select       = 0x1b
	Get          = 0x20
	Set          = 0x21
	Tee          = 0x22
	SlotGet      = 0x23
	SlotSet      = 0x24
	Size         = 0x3f
	Grow         = 0x40
	Const        = 0x42
	Slide        = 0x100
	Tick         = 0x101
)

// Scalar tells whether op is of the flat set.
func Scalar(op int) bool {
	switch op {
	case Unreachable, Jump, JumpIf, Table, Return, Call, CallIndirect, Drop, Select,
		Get, Set, Tee, SlotGet, SlotSet, Size, Grow, Const, Slide, Tick:
		return true
	}
	return num.Arity(op) != 0 || access.Size(op) != 0
}

// Effect tells how many operands a cell of the function fn takes and gives; 0
// and 0 of what isn't of the flat set, or names no function or type.
func Effect(p api.Prog, fn api.Fn, c api.Cell) (int, int) {
	switch c.Op {
	case Return:
		return fn.Out, 0
	case Call:
		if c.A >= 0 && c.A < len(p.Funcs) {
			return p.Funcs[c.A].In, p.Funcs[c.A].Out
		}
	case CallIndirect:
		if c.A >= 0 && c.A < len(p.Sigs) {
			return 1 + len(p.Sigs[c.A].In), len(p.Sigs[c.A].Out)
		}
	case Slide:
		return c.A + int(c.N), c.A
	case Select:
		return 3, 1
	case JumpIf, Table, Drop, Set, SlotSet:
		return 1, 0
	case Get, SlotGet, Size, Const:
		return 0, 1
	case Tee, Grow:
		return 1, 1
	}
	switch {
	case num.Arity(c.Op) != 0:
		return num.Arity(c.Op), 1
	case access.Stores(c.Op):
		return 2, 0
	case access.Size(c.Op) != 0:
		return 1, 1
	}
	return 0, 0
}

// Operands tells how many operands values of these types are: a vector's are
// two.
func Operands(types []int) int {
	n := len(types)
	for _, t := range types {
		if t == api.V128 {
			n++
		}
	}
	return n
}
