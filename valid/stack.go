package valid

import (
	"plait/api"
	"plait/ops"
)

// anyType stands where a value may be of any type, behind what never goes on.
const anyType = 0

// block is an open block: its opcode (0 for the function's, that of else from
// there on), what it takes and gives, the height at which it began.
type block struct {
	op     int
	sig    api.Sig
	height int
	dead   bool
	live   bool // it was opened where the code is live
}

// body is the state between two instructions.
type body struct {
	*context
	locals, results []int
	stack           []int
	vecs            int // how many on the stack are vectors
	blocks          []block
	wrong           bool // an instruction couldn't be done
}

// need notes what must be so.
func (b *body) need(so bool) {
	b.wrong = b.wrong || !so
}

// top is the innermost block.
func (b *body) top() *block {
	return &b.blocks[len(b.blocks)-1]
}

// mark tells what stands on the stack.
func (b *body) mark() api.Mark {
	if top := b.top(); top.dead || !top.live {
		return api.Mark{}
	}
	return api.Mark{Live: true, Height: len(b.stack), Vecs: b.vecs}
}

// push puts a type on the stack.
func (b *body) push(t int) {
	if t == api.V128 {
		b.vecs++
	}
	b.stack = append(b.stack, t)
}

// pop takes the uppermost type from the stack.
func (b *body) pop() int {
	last := len(b.stack) - 1
	t := b.stack[last]
	if t == api.V128 {
		b.vecs--
	}
	b.stack = b.stack[:last]
	return t
}

// take takes a type, or any type, and tells which one was there.
func (b *body) take(t int) int {
	if top := b.top(); len(b.stack) == top.height {
		b.need(top.dead)
		return anyType
	}
	got := b.pop()
	b.need(got == t || got == anyType || t == anyType)
	return got
}

// takeAll takes types, the last one first.
func (b *body) takeAll(types []int) {
	for i := len(types) - 1; i >= 0; i-- {
		b.take(types[i])
	}
}

// giveAll gives types.
func (b *body) giveAll(types []int) {
	for _, t := range types {
		b.push(t)
	}
}

// die drops the stack to the block's height: nothing goes on behind it.
func (b *body) die() {
	for len(b.stack) > b.top().height {
		b.pop()
	}
	b.top().dead = true
}

// open opens a block of a type, from this height on, and gives what it takes.
func (b *body) open(op int, sig api.Sig) {
	live := len(b.blocks) == 0 || b.top().live && !b.top().dead
	b.blocks = append(b.blocks, block{op: op, sig: sig, height: len(b.stack), live: live})
	b.giveAll(sig.In)
}

// finish takes what the block gives, and looks whether nothing else is there.
func (b *body) finish() {
	b.takeAll(b.top().sig.Out)
	b.need(len(b.stack) == b.top().height)
}

// label gives the types of a label, and whether it is there.
func (b *body) label(l int) ([]int, bool) {
	if l >= len(b.blocks) {
		return nil, false
	}
	to := b.blocks[len(b.blocks)-1-l]
	if to.op == ops.Loop {
		return to.sig.In, true
	}
	return to.sig.Out, true
}
