package interp

import (
	"plait/access"
	"plait/api"
	"plait/num"
	"plait/ops"
	"plait/pair"
	"plait/vector"
	"plait/vmem"
)

// do does an instruction.
func (f *frame) do(s *step) api.Errno {
	switch {
	case vmem.Size(s.Op) != 0:
		return f.vectorAccess(s)
	case s.Op >= ops.Vectors:
		return f.vector(s)
	case access.Size(s.Op) != 0:
		return f.access(s)
	case num.Arity(s.Op) != 0:
		return f.operator(s)
	}
	switch s.Op {
	case ops.Unreachable:
		return api.TrapUnreachable
	case ops.Block, ops.Loop, ops.If, ops.Else, ops.End:
		f.block(s)
	case ops.Br, ops.BrIf, ops.BrTable, ops.Return:
		f.jump(s)
	case ops.Call:
		return f.invoke(s.A)
	case ops.CallIndirect:
		return f.indirect(s)
	case ops.MemorySize:
		f.pushNumber(uint64(f.store.Memory().Pages()))
	case ops.MemoryGrow:
		f.pushNumber(uint64(f.store.Memory().Grow(uint32(f.popNumber()))))
	case ops.ConstI32, ops.ConstI64:
		f.pushNumber(s.Lo)
	default:
		f.variable(s)
	}
	return api.OK
}

// operator does an operator on numbers.
func (f *frame) operator(s *step) api.Errno {
	var x uint64
	var e api.Errno
	if y := f.popNumber(); num.Arity(s.Op) == 1 {
		x, e = num.Un(s.Op, y)
	} else {
		x, e = num.Bin(s.Op, f.popNumber(), y)
	}
	f.pushNumber(x)
	return e
}

// access does a load or store of a number.
func (f *frame) access(s *step) api.Errno {
	if access.Stores(s.Op) {
		x := f.popNumber()
		return access.Store(f.store.Memory(), s.Op, f.popNumber()+uint64(s.B), x)
	}
	x, e := access.Load(f.store.Memory(), s.Op, f.popNumber()+uint64(s.B))
	f.pushNumber(x)
	return e
}

// vector does an instruction of vectors without memory.
func (f *frame) vector(s *step) api.Errno {
	halves, e := vector.Do(s.Instr, put(s.info.In, f.popAll(len(s.info.In)))...)
	if e != api.OK {
		return e
	}
	results, e := taken(s.info.Out, halves)
	f.stack = append(f.stack, results...)
	return e
}

// vectorAccess does a load or store of a vector.
func (f *frame) vectorAccess(s *step) api.Errno {
	var v api.Vec
	if len(s.info.In) == 2 {
		v = pair.Join(f.pop())
	}
	addr := uint32(f.popNumber())
	if len(s.info.Out) == 0 {
		return vmem.Store(f.store.Memory(), s.Instr, addr, v)
	}
	v, e := vmem.Load(f.store.Memory(), s.Instr, addr, v)
	f.push(pair.Split(v))
	return e
}

// block opens or closes a block.
func (f *frame) block(s *step) {
	switch s.Op {
	case ops.Block, ops.Loop:
		f.enter(s)
	case ops.If:
		f.decide(s, uint32(f.popNumber()) != 0)
	case ops.Else: // what stands ahead of it has been done
		f.at = s.end
	case ops.End:
		f.labels = f.labels[:len(f.labels)-1]
	}
}

// decide enters one of an if's parts, or goes past it.
func (f *frame) decide(s *step, yes bool) {
	switch {
	case yes:
		f.enter(s)
	case s.other >= 0:
		f.enter(s)
		f.at = s.other + 1
	default:
		f.at = s.end + 1
	}
}

// jump does a branch or a return.
func (f *frame) jump(s *step) {
	switch s.Op {
	case ops.Br:
		f.branch(s.A)
	case ops.BrIf:
		if uint32(f.popNumber()) != 0 {
			f.branch(s.A)
		}
	case ops.BrTable:
		l := s.A
		if x := uint32(f.popNumber()); uint64(x) < uint64(len(s.L)) {
			l = s.L[x]
		}
		f.branch(l)
	case ops.Return:
		f.branch(len(f.labels) - 1)
	}
}

// invoke calls a function with its arguments from the stack.
func (f *frame) invoke(fn int) api.Errno {
	results, e := f.call(fn, f.popAll(len(f.funcs[fn].sig.In)))
	f.stack = append(f.stack, results...)
	return e
}

// indirect calls a function of the table.
func (f *frame) indirect(s *step) api.Errno {
	fn, ok := f.store.Elem(uint32(f.popNumber()))
	if !ok {
		return api.TrapElem
	}
	if !same(f.funcs[fn].sig, f.types[s.A]) {
		return api.TrapSig
	}
	return f.invoke(fn)
}

// variable does what drops, selects, or reads and writes locals and globals.
func (f *frame) variable(s *step) {
	switch s.Op {
	case ops.Drop:
		f.pop()
	case ops.Select:
		x, second, first := uint32(f.popNumber()), f.pop(), f.pop()
		if x == 0 {
			first = second
		}
		f.push(first)
	case ops.LocalGet:
		f.push(f.locals[s.A])
	case ops.LocalSet:
		f.locals[s.A] = f.pop()
	case ops.LocalTee:
		f.locals[s.A] = f.stack[len(f.stack)-1]
	case ops.GlobalGet, ops.GlobalSet:
		f.global(s)
	}
}

// global reads or writes the slots of a global.
func (f *frame) global(s *step) {
	k, n := f.store.Place(s.A)
	if s.Op == ops.GlobalGet {
		var v api.Halves
		v.Lo, _ = f.store.Slot(k)
		if n == 2 {
			v.Hi, _ = f.store.Slot(k + 1)
		}
		f.push(v)
		return
	}
	v := f.pop()
	f.store.SetSlot(k, v.Lo)
	if n == 2 {
		f.store.SetSlot(k+1, v.Hi)
	}
}
