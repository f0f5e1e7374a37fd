package trial

import (
	"slices"

	"plait/api"
	"plait/instr"
	"plait/ops"
)

// frame is an open block: the types of its label, and of what it gives.
type frame struct {
	label, gives []int
	height       int
}

// writer writes a body that is typed.
type writer struct {
	*dice
	module api.Module
	sig    api.Sig
	locals []int // the parameters too
	ops    []int
	code   []api.Instr
	stack  []int
	frames []frame
	budget int
}

// function writes a function.
func (w *writer) function() api.Code {
	locals := w.kinds(4)
	w.locals = slices.Concat(w.sig.In, locals)
	w.ops = plainOps()
	w.budget = 20 + w.roll(60)
	w.frames = []frame{{label: w.sig.Out, gives: w.sig.Out}}
	w.fill()
	return api.Code{Locals: locals, Body: w.code}
}

// lay writes an instruction.
func (w *writer) lay(in api.Instr) {
	w.code = append(w.code, in)
	w.budget--
}

// top is the innermost block.
func (w *writer) top() frame {
	return w.frames[len(w.frames)-1]
}

// own is what stands on the stack above the innermost block's height.
func (w *writer) own() []int {
	return w.stack[w.top().height:]
}

// take and give move types off the stack and on it.
func (w *writer) take(types []int) { w.stack = w.stack[:len(w.stack)-len(types)] }
func (w *writer) give(types []int) { w.stack = append(w.stack, types...) }

// fill writes a block's instructions and its end.
func (w *writer) fill() {
	alive := true
	for n := 1 + w.roll(14); n > 0 && w.budget > 0 && alive; n-- {
		alive = w.statement()
	}
	w.finish(alive)
	top := w.top()
	w.frames = w.frames[:len(w.frames)-1]
	w.stack = append(w.stack[:top.height], top.gives...)
	w.lay(api.Instr{Op: ops.End})
}

// finish leaves what the block gives, or something that is never reached.
func (w *writer) finish(alive bool) {
	if !alive {
		w.never()
		return
	}
	gives := w.top().gives
	if slices.Equal(w.own(), gives) {
		return
	}
	for range w.own() {
		w.lay(api.Instr{Op: ops.Drop})
	}
	w.stack = w.stack[:w.top().height]
	w.values(gives)
}

// never writes what is never reached.
func (w *writer) never() {
	for range w.roll(3) {
		switch w.roll(5) {
		case 0:
			w.lay(api.Instr{Op: ops.Unreachable})
		case 1:
			w.lay(api.Instr{Op: ops.Drop})
		case 2:
			w.lay(api.Instr{Op: 0x6a})
			w.lay(api.Instr{Op: ops.Drop})
		case 3:
			w.lay(api.Instr{Op: ops.If, A: api.Empty})
			w.lay(api.Instr{Op: ops.Else})
			w.lay(api.Instr{Op: ops.End})
		default:
			w.lay(api.Instr{Op: ops.Nop})
		}
	}
}

// values writes values of these types.
func (w *writer) values(types []int) {
	for _, t := range types {
		w.value(t)
	}
}

// value writes a value of a type: a local, a global, or a constant.
func (w *writer) value(t int) {
	w.give([]int{t})
	from := w.roll(8)
	for i, local := range w.locals {
		if local == t && (i+from)%3 == 0 {
			w.lay(api.Instr{Op: ops.LocalGet, A: i})
			return
		}
	}
	for i, g := range w.module.Globals {
		if g.Type == t && from == 0 {
			w.lay(api.Instr{Op: ops.GlobalGet, A: i})
			return
		}
	}
	w.lay(w.constant(t))
}

// want sees to it that these types stand on top.
func (w *writer) want(types []int) {
	if !suits(w.own(), types) || w.roll(4) == 0 {
		w.values(types)
	}
}

// statement writes something; false, if nothing goes on behind it.
func (w *writer) statement() bool {
	switch w.roll(16) {
	case 0, 1:
		w.block()
	case 2, 3:
		return w.branch()
	case 4:
		w.variable()
	case 5:
		w.global()
	case 6:
		w.call()
	case 7:
		w.choose()
	default:
		w.plain()
	}
	return true
}

// plain writes a plain instruction with its operands. Addresses are small, or
// stand about the memory's end.
func (w *writer) plain() {
	in := api.Instr{Op: w.ops[w.roll(len(w.ops))]}
	if w.roll(4) > 0 {
		in.Op = w.ops[len(w.ops)-1-w.roll(len(w.ops)*2/3)]
	}
	info, _ := instr.Of(in.Op)
	w.fields(&in, info)
	if info.Form == api.FormMem || info.Form == api.FormMemLane {
		w.lay(api.Instr{Op: ops.ConstI32, Lo: uint64(w.address())})
		w.give(info.In[:1])
		w.values(info.In[1:])
	} else {
		w.want(info.In)
	}
	w.take(info.In)
	w.lay(in)
	w.give(info.Out)
}

// address is a small number, or one about the memory's end.
func (w *writer) address() int {
	if w.roll(3) == 0 {
		return api.PageBytes - 40 + w.roll(44)
	}
	return w.roll(5000)
}

// fields sets what an instruction's form has.
func (w *writer) fields(in *api.Instr, info api.Info) {
	switch info.Form {
	case api.FormMem:
		in.A, in.B = w.roll(info.Limit+1), w.roll(20)
	case api.FormMemLane:
		in.A, in.B, in.Lo = w.roll(info.Limit+1), w.roll(20), uint64(w.roll(16>>info.Limit))
	case api.FormLane:
		in.A = w.roll(info.Limit)
	case api.FormShuffle:
		in.Lo, in.Hi = w.draw()&0x1f1f1f1f1f1f1f1f, w.draw()&0x1f1f1f1f1f1f1f1f
	}
}

// block writes a block, a loop or an if.
func (w *writer) block() {
	if len(w.frames) > 6 {
		return
	}
	in := api.Instr{Op: ops.Block + w.roll(3), A: []int{api.Empty, -1, -2, -5, w.roll(len(w.module.Types)), w.roll(len(w.module.Types))}[w.roll(6)]}
	sig := w.blockSig(in.A)
	w.want(sig.In)
	if in.Op == ops.If {
		w.value(api.I32)
		w.take([]int{api.I32})
	}
	w.lay(in)
	f := frame{label: sig.Out, gives: sig.Out, height: len(w.stack) - len(sig.In)}
	if in.Op == ops.Loop {
		f.label = sig.In
	}
	w.frames = append(w.frames, f)
	if in.Op == ops.If && (w.roll(2) == 0 || !slices.Equal(sig.In, sig.Out)) {
		w.firstPart(sig)
	}
	w.fill()
}

// firstPart writes what stands ahead of an else, and the else.
func (w *writer) firstPart(sig api.Sig) {
	alive := true
	for n := w.roll(5); n > 0 && alive; n-- {
		alive = w.statement()
	}
	w.finish(alive)
	w.lay(api.Instr{Op: ops.Else})
	w.stack = append(w.stack[:w.top().height], sig.In...)
}

// blockSig is what a block of a type takes and gives.
func (w *writer) blockSig(a int) api.Sig {
	switch a {
	case api.Empty:
		return api.Sig{}
	case -1:
		return api.Sig{Out: []int{api.I32}}
	case -2:
		return api.Sig{Out: []int{api.I64}}
	case -5:
		return api.Sig{Out: []int{api.V128}}
	}
	return w.module.Types[a]
}

// branch writes a branch, a return or an unreachable; false, if nothing goes on
// behind it.
func (w *writer) branch() bool {
	l := w.roll(len(w.frames))
	label := w.frames[len(w.frames)-1-l].label
	switch w.roll(8) {
	case 0:
		w.want(label)
		w.lay(api.Instr{Op: ops.Br, A: l})
	case 1:
		w.want(label)
		w.value(api.I32)
		w.take([]int{api.I32})
		in := api.Instr{Op: ops.BrTable, A: l}
		for k := range w.frames {
			if slices.Equal(w.frames[len(w.frames)-1-k].label, label) {
				in.L = append(in.L, k)
			}
		}
		w.lay(in)
	case 2:
		w.want(w.sig.Out)
		w.lay(api.Instr{Op: ops.Return})
	case 3:
		if w.roll(3) > 0 {
			return true
		}
		w.lay(api.Instr{Op: ops.Unreachable})
	default:
		w.want(label)
		w.value(api.I32)
		w.take([]int{api.I32})
		w.lay(api.Instr{Op: ops.BrIf, A: l})
		return true
	}
	return false
}

// variable writes what sets a local.
func (w *writer) variable() {
	if len(w.locals) == 0 {
		return
	}
	i := w.roll(len(w.locals))
	t := w.locals[i : i+1]
	w.want(t)
	in := api.Instr{Op: ops.LocalGet + 1 + w.roll(2), A: i}
	if in.Op == ops.LocalGet+1 {
		w.take(t)
	}
	w.lay(in)
}

// global writes what sets a global.
func (w *writer) global() {
	i := w.roll(len(w.module.Globals))
	t := []int{w.module.Globals[i].Type}
	w.want(t)
	w.take(t)
	w.lay(api.Instr{Op: ops.GlobalSet, A: i})
}

// call writes a call, seldom of what ends the run.
func (w *writer) call() {
	f := w.roll(len(w.module.Imports) + len(w.module.Funcs))
	if f == 1 && w.roll(4) > 0 {
		f = 0
	}
	in, k := api.Instr{Op: ops.Call, A: f}, 0
	if f < len(w.module.Imports) {
		k = w.module.Imports[f].Type
	} else {
		k = w.module.Funcs[f-len(w.module.Imports)]
	}
	sig := w.module.Types[k]
	w.want(sig.In)
	if w.roll(3) == 0 {
		in = api.Instr{Op: ops.CallIndirect, A: k}
		w.lay(api.Instr{Op: ops.ConstI32, Lo: uint64(w.roll(9))})
	}
	w.take(sig.In)
	w.lay(in)
	w.give(sig.Out)
}

// choose writes a drop or a select.
func (w *writer) choose() {
	if len(w.own()) > 0 && w.roll(3) == 0 {
		w.take([]int{0})
		w.lay(api.Instr{Op: ops.Drop})
		return
	}
	t := w.kind()
	w.want([]int{t})
	w.values([]int{t, api.I32})
	w.take([]int{t, api.I32})
	w.lay(api.Instr{Op: ops.Select})
}
