package exec

import (
	"plait/access"
	"plait/api"
	"plait/cells"
	"plait/num"
)

// frame is a call of a function with cells.
type frame struct {
	*run
	fn       *api.Fn
	effects  []effect
	operands []uint64
	locals   []uint64
	at       int // the next cell
}

// newFrame begins a call.
func newFrame(r *run, fn *api.Fn, effects []effect, args []uint64) *frame {
	locals := make([]uint64, fn.In+fn.Locals)
	copy(locals, args)
	return &frame{run: r, fn: fn, effects: effects, locals: locals}
}

// results does cells until the call returns.
func (f *frame) results() ([]uint64, api.Errno) {
	for f.at < len(f.fn.Cells) {
		c := &f.fn.Cells[f.at]
		if !f.may(c, f.effects[f.at]) {
			return nil, api.ErrBad
		}
		f.at++
		if c.Op == cells.Return {
			return f.popAll(f.fn.Out), api.OK
		}
		if e := f.do(c); e != api.OK {
			return nil, e
		}
	}
	return nil, api.ErrBad
}

// may tells whether the operands, the slots and the memory allow a cell.
func (f *frame) may(c *api.Cell, e effect) bool {
	left := len(f.operands) - e.takes
	if left < 0 || left+e.gives > api.MaxStack {
		return false
	}
	if e.slot {
		_, ok := f.store.Slot(c.A)
		return ok
	}
	return !e.memory || f.store.Memory() != nil
}

// push puts an operand on the stack.
func (f *frame) push(x uint64) {
	f.operands = append(f.operands, x)
}

// pop takes an operand from the stack.
func (f *frame) pop() uint64 {
	last := len(f.operands) - 1
	x := f.operands[last]
	f.operands = f.operands[:last]
	return x
}

// popShort takes an operand and gives its lowest 32 bits.
func (f *frame) popShort() uint32 {
	return uint32(f.pop())
}

// popAll takes the top n operands, in their order. They lie in the stack's
// memory till the next one is pushed.
func (f *frame) popAll(n int) []uint64 {
	from := len(f.operands) - n
	xs := f.operands[from:]
	f.operands = f.operands[:from]
	return xs
}

// do does a cell, behind which f.at stands.
func (f *frame) do(c *api.Cell) api.Errno {
	switch c.Op {
	case cells.Unreachable:
		return api.TrapUnreachable
	case cells.Jump:
		return f.jump(c.A)
	case cells.JumpIf:
		if f.popShort() != 0 {
			return f.jump(c.A)
		}
	case cells.Table:
		f.at += int(min(uint64(f.popShort()), uint64(c.A)))
	case cells.Call:
		return f.invoke(c.A)
	case cells.CallIndirect:
		return f.indirect(c.A)
	case cells.Tick:
		if f.fuel == 0 {
			return api.ErrFuel
		}
		f.fuel--
	case cells.Const:
		f.push(c.N)
	case cells.Get:
		f.push(f.locals[c.A])
	case cells.Set:
		f.locals[c.A] = f.pop()
	case cells.Tee:
		f.locals[c.A] = f.operands[len(f.operands)-1]
	default:
		return f.work(c)
	}
	return api.OK
}

// work does a cell behind which the next one follows, if it doesn't trap.
func (f *frame) work(c *api.Cell) api.Errno {
	switch c.Op {
	case cells.Drop:
		f.pop()
	case cells.Select:
		x, second, first := f.popShort(), f.pop(), f.pop()
		if x == 0 {
			first = second
		}
		f.push(first)
	case cells.Slide:
		top := f.popAll(c.A)
		f.operands = append(f.operands[:len(f.operands)-int(c.N)], top...)
	case cells.SlotGet:
		x, _ := f.store.Slot(c.A)
		f.push(x)
	case cells.SlotSet:
		f.store.SetSlot(c.A, f.pop())
	case cells.Size:
		f.push(uint64(f.store.Memory().Pages()))
	case cells.Grow:
		f.push(uint64(f.store.Memory().Grow(f.popShort())))
	default:
		if access.Size(c.Op) != 0 {
			return f.access(c)
		}
		return f.operator(c)
	}
	return api.OK
}

// operator does an operator on numbers.
func (f *frame) operator(c *api.Cell) api.Errno {
	var x uint64
	var e api.Errno
	if y := f.pop(); num.Arity(c.Op) == 1 {
		x, e = num.Un(c.Op, y)
	} else {
		x, e = num.Bin(c.Op, f.pop(), y)
	}
	f.push(x)
	return e
}

// access does a load or store of a number.
func (f *frame) access(c *api.Cell) api.Errno {
	if access.Stores(c.Op) {
		x := f.pop()
		return access.Store(f.store.Memory(), c.Op, uint64(f.popShort())+c.N, x)
	}
	x, e := access.Load(f.store.Memory(), c.Op, uint64(f.popShort())+c.N)
	f.push(x)
	return e
}

// jump goes to a cell; one that doesn't lie behind the jump is a hop away.
func (f *frame) jump(to int) api.Errno {
	if to < f.at {
		if e := f.hop(); e != api.OK {
			return e
		}
	}
	f.at = to
	return api.OK
}

// invoke calls a function with its arguments from the stack.
func (f *frame) invoke(fn int) api.Errno {
	if e := f.hop(); e != api.OK {
		return e
	}
	results, e := f.call(fn, f.popAll(f.prog.Funcs[fn].In))
	f.operands = append(f.operands, results...)
	return e
}

// indirect calls the function of the table, if its type is the one told.
func (f *frame) indirect(sig int) api.Errno {
	fn, ok := f.store.Elem(f.popShort())
	switch {
	case !ok:
		return api.TrapElem
	case fn >= len(f.prog.Funcs):
		return api.ErrBad
	case f.prog.Funcs[fn].Sig != sig:
		return api.TrapSig
	}
	return f.invoke(fn)
}
