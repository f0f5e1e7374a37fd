package valid

import (
	"slices"

	"plait/api"
	"plait/instr"
	"plait/ops"
)

// step does an instruction on the stack of types.
func (b *body) step(in api.Instr) {
	if info, _ := instr.Of(in.Op); info.Plain {
		b.plain(in, info)
		return
	}
	switch in.Op {
	case ops.Unreachable:
		b.die()
	case ops.Block, ops.Loop, ops.If, ops.Else, ops.End:
		b.nest(in)
	case ops.Br, ops.BrIf, ops.BrTable, ops.Return:
		b.branch(in)
	case ops.Call, ops.CallIndirect:
		b.call(in)
	case ops.Drop:
		b.take(anyType)
	case ops.Select:
		b.choose()
	case ops.LocalGet, ops.LocalSet, ops.LocalTee:
		b.local(in)
	default:
		b.global(in)
	}
}

// plain does an instruction that takes and gives what its opcode says.
func (b *body) plain(in api.Instr, info api.Info) {
	switch info.Form {
	case api.FormMem:
		b.need(in.A <= info.Limit)
	case api.FormMemLane:
		b.need(in.A <= info.Limit && in.Lo < 16>>info.Limit)
	case api.FormLane:
		b.need(in.A < info.Limit)
	case api.FormShuffle:
		b.need(numbers(in.Lo) && numbers(in.Hi))
	}
	if info.Form == api.FormMem || info.Form == api.FormMemLane || info.Form == api.FormZero {
		b.need(len(b.Mems) > 0)
	}
	b.takeAll(info.In)
	b.giveAll(info.Out)
}

// numbers tells whether each byte of a shuffle's half is the number of a byte.
func numbers(half uint64) bool {
	const tooGreat = 0xe0e0e0e0e0e0e0e0 // the bits of 32 and above
	return half&tooGreat == 0
}

// nest opens a block, or closes one.
func (b *body) nest(in api.Instr) {
	switch in.Op {
	case ops.Else:
		b.finish()
		top := b.top()
		top.op, top.dead = ops.Else, false
		b.giveAll(top.sig.In)
	case ops.End:
		b.finish()
		top := *b.top()
		b.need(top.op != ops.If || slices.Equal(top.sig.In, top.sig.Out))
		b.blocks = b.blocks[:len(b.blocks)-1]
		b.giveAll(top.sig.Out)
	default:
		if in.Op == ops.If {
			b.take(api.I32)
		}
		sig, ok := b.blockSig(in.A)
		b.need(ok)
		b.takeAll(sig.In)
		b.open(in.Op, sig)
	}
}

// blockSig gives what a block of the type a takes and gives, and whether there
// is such a type.
func (b *body) blockSig(a int) (api.Sig, bool) {
	switch a {
	case api.Empty:
		return api.Sig{}, true
	case -1:
		return api.Sig{Out: []int{api.I32}}, true
	case -2:
		return api.Sig{Out: []int{api.I64}}, true
	case -5:
		return api.Sig{Out: []int{api.V128}}, true
	}
	if a >= len(b.Types) {
		return api.Sig{}, false
	}
	return b.Types[a], true
}

// branch does what may go elsewhere.
func (b *body) branch(in api.Instr) {
	if in.Op == ops.Return {
		b.takeAll(b.results)
		b.die()
		return
	}
	if in.Op != ops.Br {
		b.take(api.I32)
	}
	types, ok := b.label(in.A)
	b.need(ok)
	for _, l := range in.L {
		others, ok := b.label(l)
		b.need(ok && len(others) == len(types))
		b.takeAll(others)
		b.giveAll(others)
	}
	b.takeAll(types)
	if in.Op == ops.BrIf {
		b.giveAll(types)
		return
	}
	b.die()
}

// call does a call of a function, or of one of the table.
func (b *body) call(in api.Instr) {
	var sig api.Sig
	if in.Op == ops.Call {
		b.need(in.A < len(b.sigs))
		if in.A < len(b.sigs) {
			sig = b.sigs[in.A]
		}
	} else {
		b.need(len(b.Tables) > 0 && in.B == 0 && in.A < len(b.Types))
		if in.A < len(b.Types) {
			sig = b.Types[in.A]
		}
		b.take(api.I32)
	}
	b.takeAll(sig.In)
	b.giveAll(sig.Out)
}

// choose does a select.
func (b *body) choose() {
	b.take(api.I32)
	first := b.take(anyType)
	second := b.take(first)
	if first == anyType {
		first = second
	}
	b.push(first)
}

// local does what reads or writes a local.
func (b *body) local(in api.Instr) {
	b.need(in.A < len(b.locals))
	if b.wrong {
		return
	}
	t := b.locals[in.A]
	if in.Op != ops.LocalGet {
		b.take(t)
	}
	if in.Op != ops.LocalSet {
		b.push(t)
	}
}

// global does what reads or writes a global.
func (b *body) global(in api.Instr) {
	b.need(in.A < len(b.Globals))
	if b.wrong {
		return
	}
	g := b.Globals[in.A]
	if in.Op == ops.GlobalGet {
		b.push(g.Type)
		return
	}
	b.need(g.Mut)
	b.take(g.Type)
}
