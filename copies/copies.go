// Package copies makes copies of modules and programs that share no memory with
// what was copied.
package copies

import (
	"slices"

	"plait/api"
)

// Sig copies a function's type.
func Sig(s api.Sig) api.Sig {
	return api.Sig{In: slices.Clone(s.In), Out: slices.Clone(s.Out)}
}

// Instrs copies instructions.
func Instrs(code []api.Instr) []api.Instr {
	return each(code, func(in api.Instr) api.Instr {
		in.L = slices.Clone(in.L)
		return in
	})
}

// Module copies a module.
func Module(m api.Module) api.Module {
	return api.Module{
		Types:   each(m.Types, Sig),
		Imports: slices.Clone(m.Imports),
		Funcs:   slices.Clone(m.Funcs),
		Tables:  slices.Clone(m.Tables),
		Mems:    slices.Clone(m.Mems),
		Globals: each(m.Globals, func(g api.Global) api.Global {
			g.Init = Instrs(g.Init)
			return g
		}),
		Exports: slices.Clone(m.Exports),
		Start:   m.Start,
		Elems: each(m.Elems, func(e api.Elem) api.Elem {
			return api.Elem{Offset: Instrs(e.Offset), Funcs: slices.Clone(e.Funcs)}
		}),
		Codes: each(m.Codes, func(c api.Code) api.Code {
			return api.Code{Locals: slices.Clone(c.Locals), Body: Instrs(c.Body)}
		}),
		Datas: each(m.Datas, func(d api.Data) api.Data {
			return api.Data{Offset: Instrs(d.Offset), Bytes: slices.Clone(d.Bytes)}
		}),
	}
}

// Prog copies a program.
func Prog(p api.Prog) api.Prog {
	return api.Prog{
		Sigs: each(p.Sigs, Sig),
		Funcs: each(p.Funcs, func(f api.Fn) api.Fn {
			f.Cells, f.Marks = slices.Clone(f.Cells), slices.Clone(f.Marks)
			return f
		}),
	}
}

// each makes a list of the copies of things.
func each[T any](things []T, one func(T) T) []T {
	if things == nil {
		return nil
	}
	out := make([]T, 0, len(things))
	for _, thing := range things {
		out = append(out, one(thing))
	}
	return out
}
