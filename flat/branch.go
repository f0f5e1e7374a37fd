package flat

import (
	"plait/api"
	"plait/cells"
	"plait/ops"
	"plait/split"
)

// eqz is the operator that tells whether a number of 32 bits is 0.
const eqz = 0x45

// block is an open block; op is 0 of the function's own.
type block struct {
	op           int
	live         bool // it was opened where the code is live
	height       int  // of the operands below what it takes
	takes, gives int
	start        int   // of a loop, the cell of its first instruction
	toEnd        []int // the jumps that go behind its end
	toElse       int   // of an if, the jump that is taken with 0
}

// open opens a block at that height.
func (c *compiler) open(in api.Instr, height int) {
	takes, gives := split.Block(c.module, in.A)
	b := block{op: in.Op, live: true, takes: takes, gives: gives, height: height - takes}
	if in.Op == ops.If {
		b.height-- // the number by which it decides
		c.Lay(api.Cell{Op: eqz})
		b.toElse = len(c.Cells)
		c.Lay(api.Cell{Op: cells.JumpIf})
	}
	b.start = len(c.Cells)
	c.blocks = append(c.blocks, b)
}

// otherwise goes on with an if's other part; what stands ahead of it jumps past
// that, if it comes so far.
func (c *compiler) otherwise(reached bool) {
	b := &c.blocks[len(c.blocks)-1]
	if !b.live {
		return
	}
	if reached {
		b.toEnd = append(b.toEnd, len(c.Cells))
		c.Lay(api.Cell{Op: cells.Jump})
	}
	c.Cells[b.toElse].A = len(c.Cells)
	b.op = ops.Else
}

// close closes the innermost block; the function's own returns.
func (c *compiler) close() {
	last := len(c.blocks) - 1
	b := c.blocks[last]
	c.blocks = c.blocks[:last]
	if b.op == ops.If {
		b.toEnd = append(b.toEnd, b.toElse)
	}
	for _, at := range b.toEnd {
		c.Cells[at].A = len(c.Cells)
	}
	if last == 0 {
		c.Lay(api.Cell{Op: cells.Return})
	}
}

// branch lays a branch from that height on.
func (c *compiler) branch(in api.Instr, height int) {
	switch in.Op {
	case ops.Return:
		c.Lay(api.Cell{Op: cells.Return})
	case ops.Br:
		c.leave(in.A, height)
	case ops.BrIf:
		c.leaveIf(in.A, height-1)
	case ops.BrTable:
		c.leaveBy(in, height-1)
	}
}

// target is the block of a label, and whether a branch to it is a jump alone.
func (c *compiler) target(l, height int) (*block, bool) {
	b := &c.blocks[len(c.blocks)-1-l]
	return b, b.op != 0 && c.excess(b, height) == 0
}

// along is how many operands a branch to a block takes along.
func along(b *block) int {
	if b.op == ops.Loop {
		return b.takes
	}
	return b.gives
}

// excess is how many operands lie between a block's and those that a branch
// takes along.
func (c *compiler) excess(b *block, height int) int {
	return height - along(b) - b.height
}

// jump lays a jump to a block's label.
func (c *compiler) jump(op int, b *block) {
	if b.op != ops.Loop {
		b.toEnd = append(b.toEnd, len(c.Cells))
	}
	c.Lay(api.Cell{Op: op, A: b.start})
}

// leave goes to a label with what it takes along.
func (c *compiler) leave(l, height int) {
	b, simple := c.target(l, height)
	switch {
	case b.op == 0:
		c.Lay(api.Cell{Op: cells.Return})
		return
	case !simple:
		c.Lay(api.Cell{Op: cells.Slide, A: along(b), N: uint64(c.excess(b, height))})
	}
	c.jump(cells.Jump, b)
}

// leaveIf goes to a label, or on.
func (c *compiler) leaveIf(l, height int) {
	b, simple := c.target(l, height)
	if simple {
		c.jump(cells.JumpIf, b)
		return
	}
	c.Lay(api.Cell{Op: eqz})
	past := len(c.Cells)
	c.Lay(api.Cell{Op: cells.JumpIf})
	c.leave(l, height)
	c.Cells[past].A = len(c.Cells)
}

// leaveBy goes to one of a row of labels. Labels that want more than a jump have
// pads behind the row, one each.
func (c *compiler) leaveBy(in api.Instr, height int) {
	c.Lay(api.Cell{Op: cells.Table, A: len(in.L)})
	pads := make([][]int, len(c.blocks)) // of each label the jumps to its pad
	for i := range len(in.L) + 1 {
		l := in.A
		if i < len(in.L) {
			l = in.L[i]
		}
		switch b, simple := c.target(l, height); {
		case b.op == 0:
			c.Lay(api.Cell{Op: cells.Return})
		case simple:
			c.jump(cells.Jump, b)
		default:
			pads[l] = append(pads[l], len(c.Cells))
			c.Lay(api.Cell{Op: cells.Jump})
		}
	}
	for l, jumps := range pads {
		if len(jumps) == 0 {
			continue
		}
		for _, at := range jumps {
			c.Cells[at].A = len(c.Cells)
		}
		c.leave(l, height)
	}
}
