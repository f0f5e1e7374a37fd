package valid

import (
	"slices"

	"plait/api"
	"plait/instr"
)

// The instructions that aren't plain.
const (
	unreachable  = 0x00
	blockOp      = 0x02
	loopOp       = 0x03
	ifOp         = 0x04
	elseOp       = 0x05
	br           = 0x0c
	brIf         = 0x0d
	brTable      = 0x0e
	returnOp     = 0x0f
	call         = 0x10
	callIndirect = 0x11
	drop         = 0x1a
	selectOp     = 0x1b
	localGet     = 0x20
	localSet     = 0x21
	localTee     = 0x22
	globalGet    = 0x23
	globalSet    = 0x24
)

// step does an instruction on the stack of types.
func (b *body) step(in api.Instr) {
	if info, _ := instr.Of(in.Op); info.Plain {
		b.plain(in, info)
		return
	}
	switch in.Op {
	case unreachable:
		b.die()
	case blockOp, loopOp, ifOp, elseOp, endOp:
		b.nest(in)
	case br, brIf, brTable, returnOp:
		b.branch(in)
	case call, callIndirect:
		b.call(in)
	case drop:
		b.take(anyType)
	case selectOp:
		b.choose()
	case localGet, localSet, localTee:
		b.local(in)
	default:
		b.global(in)
	}
}

// plain does an instruction that takes and gives what its opcode says.
func (b *body) plain(in api.Instr, info api.Info) {
	switch info.Form {
	case api.FormMem:
		b.need(in.A <= info.Limit)
	case api.FormMemLane:
		b.need(in.A <= info.Limit && in.Lo < 16>>info.Limit)
	case api.FormLane:
		b.need(in.A < info.Limit)
	case api.FormShuffle:
		b.need(numbers(in.Lo) && numbers(in.Hi))
	}
	if info.Form == api.FormMem || info.Form == api.FormMemLane || info.Form == api.FormZero {
		b.need(len(b.Mems) > 0)
	}
	b.takeAll(info.In)
	b.giveAll(info.Out)
}

// numbers tells whether each byte of a shuffle's half is the number of a byte.
func numbers(half uint64) bool {
	const tooGreat = 0xe0e0e0e0e0e0e0e0 // the bits of 32 and above
	return half&tooGreat == 0
}

// nest opens a block, or closes one.
func (b *body) nest(in api.Instr) {
	switch in.Op {
	case elseOp:
		b.finish()
		top := b.top()
		top.op, top.dead = elseOp, false
		b.giveAll(top.sig.In)
	case endOp:
		b.finish()
		top := *b.top()
		b.need(top.op != ifOp || slices.Equal(top.sig.In, top.sig.Out))
		b.blocks = b.blocks[:len(b.blocks)-1]
		b.giveAll(top.sig.Out)
	default:
		if in.Op == ifOp {
			b.take(api.I32)
		}
		sig, ok := b.blockSig(in.A)
		b.need(ok)
		b.takeAll(sig.In)
		b.open(in.Op, sig)
	}
}

// blockSig gives what a block of the type a takes and gives, and whether there
// is such a type.
func (b *body) blockSig(a int) (api.Sig, bool) {
	switch a {
	case api.Empty:
		return api.Sig{}, true
	case -1:
		return api.Sig{Out: []int{api.I32}}, true
	case -2:
		return api.Sig{Out: []int{api.I64}}, true
	case -5:
		return api.Sig{Out: []int{api.V128}}, true
	}
	if a >= len(b.Types) {
		return api.Sig{}, false
	}
	return b.Types[a], true
}

// branch does what may go elsewhere.
func (b *body) branch(in api.Instr) {
	if in.Op == returnOp {
		b.takeAll(b.results)
		b.die()
		return
	}
	if in.Op != br {
		b.take(api.I32)
	}
	types, ok := b.label(in.A)
	b.need(ok)
	for _, l := range in.L {
		others, ok := b.label(l)
		b.need(ok && len(others) == len(types))
		b.takeAll(others)
		b.giveAll(others)
	}
	b.takeAll(types)
	if in.Op == brIf {
		b.giveAll(types)
		return
	}
	b.die()
}

// call does a call of a function, or of one of the table.
func (b *body) call(in api.Instr) {
	var sig api.Sig
	if in.Op == call {
		b.need(in.A < len(b.sigs))
		if in.A < len(b.sigs) {
			sig = b.sigs[in.A]
		}
	} else {
		b.need(len(b.Tables) > 0 && in.B == 0 && in.A < len(b.Types))
		if in.A < len(b.Types) {
			sig = b.Types[in.A]
		}
		b.take(api.I32)
	}
	b.takeAll(sig.In)
	b.giveAll(sig.Out)
}

// choose does a select.
func (b *body) choose() {
	b.take(api.I32)
	first := b.take(anyType)
	second := b.take(first)
	if first == anyType {
		first = second
	}
	b.push(first)
}

// local does what reads or writes a local.
func (b *body) local(in api.Instr) {
	b.need(in.A < len(b.locals))
	if b.wrong {
		return
	}
	t := b.locals[in.A]
	if in.Op != localGet {
		b.take(t)
	}
	if in.Op != localSet {
		b.push(t)
	}
}

// global does what reads or writes a global.
func (b *body) global(in api.Instr) {
	b.need(in.A < len(b.Globals))
	if b.wrong {
		return
	}
	g := b.Globals[in.A]
	if in.Op == globalGet {
		b.push(g.Type)
		return
	}
	b.need(g.Mut)
	b.take(g.Type)
}
