package flat

import (
	"plait/api"
	"plait/cells"
	"plait/memlow"
	"plait/ops"
	"plait/permute"
	"plait/split"
	"plait/swar"
	"plait/tape"
)

// picks is how many scratch locals the select of two vectors has.
const picks = 4

// compiler compiles one function. What lays cells is embedded.
type compiler struct {
	tape.Tape
	*source
	stack   []api.Mark // what stands on the stack ahead of each instruction
	marks   []int      // the cells at which the images begin
	types   []int      // of the parameters and the declared locals
	locals  []int      // the first local of each of their images
	base    int        // the first scratch local
	scratch int        // how many scratch locals there are
	blocks  []block
}

// body compiles a body that gives so many operands.
func (c *compiler) body(code []api.Instr, out int) {
	c.blocks = []block{{live: true, gives: out}}
	for i, in := range code {
		if !c.stack[i].Live {
			c.marks = append(c.marks, -1)
			c.dead(in)
			continue
		}
		c.marks = append(c.marks, len(c.Cells))
		if in.Op != ops.Else && in.Op != ops.End {
			c.Lay(api.Cell{Op: cells.Tick})
		}
		c.instruction(i, in)
	}
}

// height is how many operands stand ahead of the instruction i.
func (c *compiler) height(i int) int {
	return c.stack[i].Height + c.stack[i].Vecs
}

// dead goes past an instruction that is never reached; blocks are closed all the
// same.
func (c *compiler) dead(in api.Instr) {
	switch in.Op {
	case ops.Block, ops.Loop, ops.If:
		c.blocks = append(c.blocks, block{})
	case ops.Else:
		c.otherwise(false)
	case ops.End:
		c.close()
	}
}

// instruction lays the image of the instruction i, behind its tick.
func (c *compiler) instruction(i int, in api.Instr) {
	switch in.Op {
	case ops.Nop:
	case ops.Unreachable:
		c.Lay(api.Cell{Op: cells.Unreachable})
	case ops.Block, ops.Loop, ops.If:
		c.open(in, c.height(i))
	case ops.Else:
		c.otherwise(true)
	case ops.End:
		c.close()
	case ops.Br, ops.BrIf, ops.BrTable, ops.Return:
		c.branch(in, c.height(i))
	case ops.Call:
		c.Lay(api.Cell{Op: cells.Call, A: in.A})
	case ops.CallIndirect:
		c.Lay(api.Cell{Op: cells.CallIndirect, A: split.Canon(c.module, in.A)})
	case ops.Drop, ops.Select:
		c.choose(i, in)
	case ops.LocalGet, ops.LocalSet, ops.LocalTee:
		c.local(in)
	case ops.GlobalGet, ops.GlobalSet:
		c.global(in)
	case ops.ConstI32, ops.ConstI64:
		c.Lay(api.Cell{Op: cells.Const, N: in.Lo})
	default:
		c.plain(in)
	}
}

// plain lays what is a cell itself, or a vector's sequence.
func (c *compiler) plain(in api.Instr) {
	if in.Op < ops.Vectors {
		c.Lay(api.Cell{Op: in.Op, N: uint64(in.B)})
		return
	}
	row, n := sequence(in, c.base)
	c.need(n)
	c.Lay(row...)
}

// sequence asks the layer whose instruction it is.
func sequence(in api.Instr, base int) ([]api.Cell, int) {
	var row []api.Cell
	var n int
	switch {
	case swar.Is(in.Op):
		row, n, _ = swar.Seq(in, base)
	case permute.Is(in.Op):
		row, n, _ = permute.Seq(in, base)
	default:
		row, n, _ = memlow.Seq(in, base)
	}
	return row, n
}

// need sees to it that there are n scratch locals.
func (c *compiler) need(n int) {
	c.scratch = max(c.scratch, n)
}

// choose drops a value, or one of two. How many of its operands are halves of
// vectors the next instruction's stack tells.
func (c *compiler) choose(i int, in api.Instr) {
	vector := c.stack[i].Vecs != c.stack[i+1].Vecs
	switch {
	case in.Op == ops.Drop && vector:
		c.Lay(api.Cell{Op: cells.Drop}, api.Cell{Op: cells.Drop})
	case in.Op == ops.Drop:
		c.Lay(api.Cell{Op: cells.Drop})
	case vector:
		c.pickVector()
	default:
		c.Lay(api.Cell{Op: cells.Select})
	}
}

// pickVector selects the lower halves, then the upper ones.
func (c *compiler) pickVector() {
	c.need(picks)
	first, lower, upper, cond := c.base, c.base+1, c.base+2, c.base+3
	c.Lay(
		set(cond), set(upper), set(lower), set(first),
		get(lower), get(cond), api.Cell{Op: cells.Select},
		get(first), get(upper), get(cond), api.Cell{Op: cells.Select},
	)
}

// local reads or writes the image of a local.
func (c *compiler) local(in api.Instr) {
	lo := c.locals[in.A]
	hi := lo + 1
	if c.types[in.A] != api.V128 {
		c.Lay(api.Cell{Op: in.Op, A: lo})
		return
	}
	switch in.Op {
	case ops.LocalGet:
		c.Lay(get(lo), get(hi))
	case ops.LocalSet:
		c.Lay(set(hi), set(lo))
	case ops.LocalTee:
		c.Lay(set(hi), api.Cell{Op: cells.Tee, A: lo}, get(hi))
	}
}

// global reads or writes the slots of a global.
func (c *compiler) global(in api.Instr) {
	lo := api.Cell{Op: in.Op, A: c.slots[in.A]}
	hi := api.Cell{Op: in.Op, A: lo.A + 1}
	switch {
	case c.module.Globals[in.A].Type != api.V128:
		c.Lay(lo)
	case in.Op == ops.GlobalGet:
		c.Lay(lo, hi)
	default:
		c.Lay(hi, lo)
	}
}

// get and set read and write a local.
func get(local int) api.Cell { return api.Cell{Op: cells.Get, A: local} }
func set(local int) api.Cell { return api.Cell{Op: cells.Set, A: local} }
