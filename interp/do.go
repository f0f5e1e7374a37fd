package interp

import (
	"plait/access"
	"plait/api"
	"plait/num"
	"plait/pair"
	"plait/vector"
	"plait/vmem"
)

// The opcodes of what isn't an operator, an access or a vector's instruction.
const (
	unreachable  = 0x00
	nop          = 0x01
	blockOp      = 0x02
	loopOp       = 0x03
	ifOp         = 0x04
	elseOp       = 0x05
	endOp        = 0x0b
	br           = 0x0c
	brIf         = 0x0d
	brTable      = 0x0e
	returnOp     = 0x0f
	call         = 0x10
	callIndirect = 0x11
	drop         = 0x1a
	selectOp     = 0x1b
	localGet     = 0x20
	localSet     = 0x21
	localTee     = 0x22
	globalGet    = 0x23
	globalSet    = 0x24
	memorySize   = 0x3f
	memoryGrow   = 0x40
	constI32     = 0x41
	constI64     = 0x42
	vectors      = 0xfd00
)

// do does an instruction.
func (f *frame) do(s *step) api.Errno {
	switch {
	case vmem.Size(s.Op) != 0:
		return f.vectorAccess(s)
	case s.Op >= vectors:
		return f.vector(s)
	case access.Size(s.Op) != 0:
		return f.access(s)
	case num.Arity(s.Op) != 0:
		return f.operator(s)
	}
	switch s.Op {
	case unreachable:
		return api.TrapUnreachable
	case blockOp, loopOp, ifOp, elseOp, endOp:
		f.block(s)
	case br, brIf, brTable, returnOp:
		f.jump(s)
	case call:
		return f.invoke(s.A)
	case callIndirect:
		return f.indirect(s)
	case memorySize:
		f.pushNumber(uint64(f.store.Memory().Pages()))
	case memoryGrow:
		f.pushNumber(uint64(f.store.Memory().Grow(uint32(f.popNumber()))))
	case constI32, constI64:
		f.pushNumber(s.Lo)
	default:
		f.variable(s)
	}
	return api.OK
}

// operator does an operator on numbers.
func (f *frame) operator(s *step) api.Errno {
	var x uint64
	var e api.Errno
	if y := f.popNumber(); num.Arity(s.Op) == 1 {
		x, e = num.Un(s.Op, y)
	} else {
		x, e = num.Bin(s.Op, f.popNumber(), y)
	}
	f.pushNumber(x)
	return e
}

// access does a load or store of a number.
func (f *frame) access(s *step) api.Errno {
	if access.Stores(s.Op) {
		x := f.popNumber()
		return access.Store(f.store.Memory(), s.Op, f.popNumber()+uint64(s.B), x)
	}
	x, e := access.Load(f.store.Memory(), s.Op, f.popNumber()+uint64(s.B))
	f.pushNumber(x)
	return e
}

// vector does an instruction of vectors without memory.
func (f *frame) vector(s *step) api.Errno {
	halves, e := vector.Do(s.Instr, put(s.info.In, f.popAll(len(s.info.In)))...)
	if e != api.OK {
		return e
	}
	results, e := taken(s.info.Out, halves)
	f.stack = append(f.stack, results...)
	return e
}

// vectorAccess does a load or store of a vector.
func (f *frame) vectorAccess(s *step) api.Errno {
	var v api.Vec
	if len(s.info.In) == 2 {
		v = pair.Join(f.pop())
	}
	addr := uint32(f.popNumber())
	if len(s.info.Out) == 0 {
		return vmem.Store(f.store.Memory(), s.Instr, addr, v)
	}
	v, e := vmem.Load(f.store.Memory(), s.Instr, addr, v)
	f.push(pair.Split(v))
	return e
}

// block opens or closes a block.
func (f *frame) block(s *step) {
	switch s.Op {
	case blockOp, loopOp:
		f.enter(s)
	case ifOp:
		switch yes := uint32(f.popNumber()) != 0; {
		case yes:
			f.enter(s)
		case s.other >= 0:
			f.enter(s)
			f.at = s.other + 1
		default:
			f.at = s.end + 1
		}
	case elseOp: // what stands ahead of it has been done
		f.at = s.end
	case endOp:
		f.labels = f.labels[:len(f.labels)-1]
	}
}

// jump does a branch or a return.
func (f *frame) jump(s *step) {
	switch s.Op {
	case br:
		f.branch(s.A)
	case brIf:
		if uint32(f.popNumber()) != 0 {
			f.branch(s.A)
		}
	case brTable:
		l := s.A
		if x := uint32(f.popNumber()); uint64(x) < uint64(len(s.L)) {
			l = s.L[x]
		}
		f.branch(l)
	case returnOp:
		f.branch(len(f.labels) - 1)
	}
}

// invoke calls a function with its arguments from the stack.
func (f *frame) invoke(fn int) api.Errno {
	results, e := f.call(fn, f.popAll(len(f.funcs[fn].sig.In)))
	f.stack = append(f.stack, results...)
	return e
}

// indirect calls a function of the table.
func (f *frame) indirect(s *step) api.Errno {
	fn, ok := f.store.Elem(uint32(f.popNumber()))
	if !ok {
		return api.TrapElem
	}
	if !same(f.funcs[fn].sig, f.types[s.A]) {
		return api.TrapSig
	}
	return f.invoke(fn)
}

// variable does what drops, selects, or reads and writes locals and globals.
func (f *frame) variable(s *step) {
	switch s.Op {
	case drop:
		f.pop()
	case selectOp:
		x, second, first := uint32(f.popNumber()), f.pop(), f.pop()
		if x == 0 {
			first = second
		}
		f.push(first)
	case localGet:
		f.push(f.locals[s.A])
	case localSet:
		f.locals[s.A] = f.pop()
	case localTee:
		f.locals[s.A] = f.stack[len(f.stack)-1]
	case globalGet, globalSet:
		f.global(s)
	}
}

// global reads or writes the slots of a global.
func (f *frame) global(s *step) {
	k, n := f.store.Place(s.A)
	if s.Op == globalGet {
		var v api.Halves
		v.Lo, _ = f.store.Slot(k)
		if n == 2 {
			v.Hi, _ = f.store.Slot(k + 1)
		}
		f.push(v)
		return
	}
	v := f.pop()
	f.store.SetSlot(k, v.Lo)
	if n == 2 {
		f.store.SetSlot(k+1, v.Hi)
	}
}
