package interp

import (
	"plait/api"
	"plait/ops"
)

// frame is a call of a function of the module. A value is a vector's halves, a
// number in the lower one.
type frame struct {
	*run
	fn     *function
	locals []api.Halves
	stack  []api.Halves
	labels []label
	at     int // the place of the next instruction
}

// label is an open block: the stack's height below what it takes, how many
// values a branch to it takes along, and where that goes on.
type label struct {
	height, arity, next int
	loop                bool
}

// newFrame begins a call.
func newFrame(r *run, fn *function, args []api.Halves) *frame {
	f := &frame{run: r, fn: fn}
	f.locals = append(f.locals, args...)
	f.locals = append(f.locals, make([]api.Halves, fn.locals)...)
	f.labels = []label{{arity: len(fn.sig.Out), next: len(fn.body)}}
	return f
}

// results does the body to its end and gives what the function gives.
func (f *frame) results() ([]api.Halves, api.Errno) {
	for f.at < len(f.fn.body) {
		s := &f.fn.body[f.at]
		f.at++
		if s.Op != ops.Else && s.Op != ops.End {
			if f.fuel == 0 {
				return nil, api.ErrFuel
			}
			f.fuel--
		}
		if e := f.do(s); e != api.OK {
			return nil, e
		}
	}
	return f.popAll(len(f.fn.sig.Out)), api.OK
}

// push puts a value on the stack.
func (f *frame) push(v api.Halves) {
	f.stack = append(f.stack, v)
}

// pushNumber puts a number on the stack.
func (f *frame) pushNumber(x uint64) {
	f.push(api.Halves{Lo: x})
}

// pop takes a value from the stack.
func (f *frame) pop() api.Halves {
	last := len(f.stack) - 1
	v := f.stack[last]
	f.stack = f.stack[:last]
	return v
}

// popNumber takes a number from the stack.
func (f *frame) popNumber() uint64 {
	return f.pop().Lo
}

// popAll takes the top n values, in their order. They lie in the stack's memory
// till the next value is pushed.
func (f *frame) popAll(n int) []api.Halves {
	from := len(f.stack) - n
	vals := f.stack[from:]
	f.stack = f.stack[:from]
	return vals
}

// enter opens a block that has been taken from the place s.
func (f *frame) enter(s *step) {
	l := label{height: len(f.stack) - s.takes, arity: s.gives, next: s.end + 1}
	if s.Op == ops.Loop {
		l.arity, l.next, l.loop = s.takes, f.at, true
	}
	f.labels = append(f.labels, l)
}

// branch goes to the l-th open block from the innermost on.
func (f *frame) branch(l int) {
	k := len(f.labels) - 1 - l
	to := f.labels[k]
	vals := f.popAll(to.arity)
	f.stack = append(f.stack[:to.height], vals...)
	f.labels = f.labels[:k]
	if to.loop {
		f.labels = f.labels[:k+1]
	}
	f.at = to.next
}
