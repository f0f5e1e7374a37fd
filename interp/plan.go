package interp

import (
	"slices"

	"plait/api"
	"plait/instr"
	"plait/ops"
)

// function is a function of the module, or the import whose number host is.
type function struct {
	sig    api.Sig
	host   int // -1 of a function of the module
	locals int // how many it declares
	body   []step
}

// step is an instruction with what its place in the body says.
type step struct {
	api.Instr
	info api.Info
	// Of a block its end's place, of an if also its else's place (-1 without
	// one), of an else its end's.
	end, other int
	// Of a block how many values it takes and gives.
	takes, gives int
}

// planned lays out a function whose blocks' types are among those told.
func planned(types []api.Sig, sig api.Sig, code api.Code) function {
	fn := function{sig: sig, host: -1, locals: len(code.Locals)}
	var open []int // the places of the blocks that are open
	for at, in := range code.Body {
		info, _ := instr.Of(in.Op)
		s := step{Instr: in, info: info, other: -1}
		last := len(open) - 1
		if info.Form == api.FormBlock {
			s.takes, s.gives = arity(types, in.A)
		}
		fn.body = append(fn.body, s)
		switch {
		case info.Form == api.FormBlock:
			open = append(open, at)
		case in.Op == ops.Else:
			fn.body[open[last]].other = at
		case in.Op == ops.End && last >= 0:
			fn.close(open[last], at)
			open = open[:last]
		}
	}
	return fn
}

// close tells a block, and its else, where they end.
func (fn *function) close(at, end int) {
	fn.body[at].end = end
	if other := fn.body[at].other; other >= 0 {
		fn.body[other].end = end
	}
}

// same tells whether two functions' types are alike.
func same(a, b api.Sig) bool {
	return slices.Equal(a.In, b.In) && slices.Equal(a.Out, b.Out)
}

// arity tells how many values a block of the type a takes and gives.
func arity(types []api.Sig, a int) (int, int) {
	switch {
	case a >= 0:
		return len(types[a].In), len(types[a].Out)
	case a == api.Empty:
		return 0, 0
	}
	return 0, 1
}
