package valid_test

import (
	"math"
	"reflect"
	"slices"
	"testing"

	"plait/api"
	"plait/instr"
	"plait/valid"
)

type code = []api.Instr

func op(n int) api.Instr         { return api.Instr{Op: n} }
func opA(n, a int) api.Instr     { return api.Instr{Op: n, A: a} }
func opAB(n, a, b int) api.Instr { return api.Instr{Op: n, A: a, B: b} }
func table(a int, l ...int) api.Instr {
	return api.Instr{Op: 0x0e, A: a, L: l}
}

const (
	i32, i64, v128 = api.I32, api.I64, api.V128
	empty          = api.Empty
)

var (
	end, els, nop, dead, ret = op(0x0b), op(5), op(1), op(0), op(0x0f)
	c32, c64, cv             = op(0x41), op(0x42), op(0xfd0c)
	dropped, choose          = op(0x1a), op(0x1b)
	add32, add64, addV       = op(0x6a), op(0x7c), op(0xfd6e)
)

// with is a module with a memory, a table, globals, an import, types, and one
// function of the type 0 with that body.
func with(in, out, locals []int, body ...api.Instr) api.Module {
	return api.Module{
		Start: -1,
		Types: []api.Sig{
			{In: in, Out: out}, {}, {In: []int{i32}, Out: []int{i64}}, {In: []int{i32, v128}, Out: []int{v128, i32}},
			{Out: []int{i32, i64}}, {In: []int{i32}, Out: []int{i32}}, {In: []int{i32}},
		},
		Imports: []api.Import{{Type: 2}},
		Funcs:   []int{0, 3},
		Tables:  []api.Limits{{Min: 1, Max: -1}},
		Mems:    []api.Limits{{Min: 1, Max: -1}},
		Globals: []api.Global{{Type: v128, Mut: true, Init: code{cv, end}}, {Type: i32, Init: code{c32, end}}},
		Codes:   []api.Code{{Locals: locals, Body: append(body, end)}, {Body: code{dead, end}}},
	}
}

func check(t *testing.T, what any, m api.Module, want api.Errno) {
	t.Helper()
	if e := valid.Check(m); e != want {
		t.Errorf("%v: %d, want %d", what, e, want)
	}
}

// P15.2: bodies that are typed, and bodies that aren't.
func TestBodies(t *testing.T) {
	none := []int(nil)
	rows := []struct {
		in, out, locals []int
		body            code
		ok              bool
	}{
		{none, none, none, code{}, true}, {none, []int{i32}, none, code{c32}, true}, {none, []int{i32}, none, code{}, false}, {none, none, none, code{c32}, false}, {none, []int{i32}, none, code{c64}, false},
		{none, []int{i32, v128}, none, code{c32, cv}, true}, {none, []int{i32, v128}, none, code{cv, c32}, false}, {none, []int{i32}, none, code{c32, c32}, false},
		{none, none, none, code{c32, c32, add32, dropped}, true}, {none, none, none, code{c32, add32, dropped}, false}, {none, none, none, code{c64, c32, add32, dropped}, false}, {none, none, none, code{c32, c64, add32, dropped}, false},
		{none, none, none, code{cv, cv, addV, dropped}, true}, {none, none, none, code{cv, c64, addV, dropped}, false}, {none, none, none, code{dropped}, false}, {none, none, none, code{nop}, true},
		// unreachable
		{none, []int{i32}, none, code{dead}, true}, {none, []int{i32}, none, code{dead, add32}, true}, {none, []int{i32}, none, code{dead, add64}, false}, {none, []int{i32}, none, code{dead, c32, c32}, false}, {none, none, none, code{c64, dead}, true},
		{none, []int{i32}, none, code{dead, c64, c32, add32}, false}, {none, none, none, code{dead, dropped, dropped}, true}, {none, []int{i64}, none, code{dead, c64}, true}, {none, none, none, code{dead, c64}, false},
		// select
		{none, []int{v128}, none, code{cv, cv, c32, choose}, true}, {none, []int{i32}, none, code{c32, cv, c32, choose}, false}, {none, []int{i32}, none, code{c32, c32, c64, choose}, false}, {none, []int{i64}, none, code{c64, c64, c32, choose}, true},
		{none, []int{v128}, none, code{dead, choose}, true}, {none, []int{v128}, none, code{dead, cv, c32, choose}, true}, {none, []int{i32}, none, code{dead, cv, c32, choose}, false}, {none, []int{i32}, none, code{dead, c32, cv, c32, choose}, false},
		{none, []int{i64}, none, code{dead, choose, add64}, true}, {none, []int{i64}, none, code{dead, choose, c64, c32, choose}, true}, {none, []int{i32}, none, code{dead, choose, c64, c32, choose}, false}, {none, []int{i64}, none, code{c64, c32, choose}, false},
		// locals
		{[]int{i32, v128}, []int{v128}, none, code{opA(0x20, 1)}, true}, {[]int{i32, v128}, []int{v128}, none, code{opA(0x20, 0)}, false}, {[]int{i32}, []int{i64}, []int{i64}, code{opA(0x20, 1)}, true}, {[]int{i32}, []int{i64}, []int{i64}, code{opA(0x20, 2)}, false},
		{[]int{i32}, none, []int{v128}, code{cv, opA(0x21, 1)}, true}, {[]int{i32}, none, []int{v128}, code{c32, opA(0x21, 1)}, false}, {none, []int{v128}, []int{v128}, code{cv, opA(0x22, 0)}, true}, {none, none, []int{v128}, code{cv, opA(0x22, 0)}, false}, {none, none, []int{v128}, code{opA(0x21, 0)}, false}, {none, []int{v128}, []int{v128}, code{dead, opA(0x22, 0)}, true},
		{none, none, none, code{dead, opA(0x20, 0)}, false}, {none, none, none, code{dead, opA(0x21, 1<<32-1)}, false},
		// globals
		{none, []int{v128}, none, code{opA(0x23, 0)}, true}, {none, []int{i32}, none, code{opA(0x23, 1)}, true}, {none, []int{i32}, none, code{opA(0x23, 0)}, false}, {none, []int{i32}, none, code{opA(0x23, 2)}, false},
		{none, none, none, code{cv, opA(0x24, 0)}, true}, {none, none, none, code{c32, opA(0x24, 1)}, false}, {none, none, none, code{c32, opA(0x24, 0)}, false}, {none, none, none, code{cv, opA(0x24, 2)}, false}, {none, none, none, code{dead, opA(0x24, 1)}, false},
		// blocks
		{none, none, none, code{opA(2, empty), end}, true}, {none, []int{i32}, none, code{opA(2, -1), c32, end}, true}, {none, []int{i64}, none, code{opA(2, -2), c64, end}, true}, {none, []int{v128}, none, code{opA(3, -5), cv, end}, true}, {none, []int{i32}, none, code{opA(2, -1), end}, false}, {none, []int{i32}, none, code{opA(2, -1), c64, end}, false},
		{none, []int{i64}, none, code{c32, opA(2, 2), dropped, c64, end}, true}, {none, []int{i64}, none, code{opA(2, 2), dropped, c64, end}, false}, {none, []int{i64}, none, code{c32, opA(2, 2), c64, end}, false}, {none, none, none, code{opA(2, 7), end}, false}, {none, none, none, code{opA(2, 1), end}, true},
		{none, []int{v128, i32}, none, code{c32, cv, opA(3, 3), dropped, dropped, cv, c32, end}, true}, {none, []int{i32}, none, code{c32, opA(2, empty), dropped, end}, false}, {none, []int{i32}, none, code{c32, opA(2, empty), end}, true}, {none, none, none, code{opA(2, empty), c32, end, dropped}, false},
		{none, []int{i32}, none, code{dead, opA(2, empty), add32, end}, false}, {none, []int{i32}, none, code{opA(2, -1), dead, end}, true}, {none, none, none, code{opA(2, empty), dead, end, add32}, false}, {none, none, none, code{dead, opA(2, 2), c64, end}, false},
		// if
		{none, none, none, code{c32, opA(4, empty), els, end}, true}, {none, none, none, code{c32, opA(4, empty), end}, true}, {none, none, none, code{opA(4, empty), end}, false}, {none, none, none, code{c64, opA(4, empty), end}, false}, {none, []int{i32}, none, code{c32, opA(4, -1), c32, els, c32, end}, true}, {none, []int{i32}, none, code{c32, opA(4, -1), c32, end}, false}, {none, []int{i32}, none, code{c32, opA(4, -1), c32, els, end}, false}, {none, []int{i32}, none, code{c32, opA(4, -1), els, c32, end}, false},
		{none, []int{i32}, none, code{c32, c32, opA(4, 5), end}, true}, {none, []int{i64}, none, code{c32, c32, opA(4, 2), dropped, c64, end}, false}, {none, []int{i64}, none, code{c32, c32, opA(4, 2), dropped, c64, els, dropped, c64, end}, true}, {none, []int{i64}, none, code{c32, c32, opA(4, 2), dropped, c64, els, c64, end}, false},
		{none, []int{i32}, none, code{c32, opA(4, -1), dead, els, c32, end}, true}, {none, []int{i32}, none, code{c32, opA(4, -1), dead, els, end}, false}, {none, []int{i32}, none, code{c32, opA(4, -1), c32, els, dead, end}, true}, {none, none, none, code{c32, opA(4, empty), c32, els, end}, false}, {none, []int{i32}, none, code{c32, opA(4, -1), dead, end}, false},
		// br, br_if
		{none, []int{i32}, none, code{opA(2, -1), opA(0x0c, 0), end}, false}, {none, []int{i32}, none, code{opA(2, -1), c32, opA(0x0c, 0), end}, true}, {none, []int{i32}, none, code{opA(2, -1), c32, opA(0x0c, 1), end}, true}, {none, []int{i32}, none, code{opA(2, -1), c32, opA(0x0c, 2), end}, false}, {none, []int{i32}, none, code{opA(2, -1), c64, opA(0x0c, 0), end}, false}, {none, []int{i32}, none, code{c64, c32, opA(0x0c, 0)}, true},
		{none, none, none, code{opA(3, empty), opA(0x0c, 0), end}, true}, {none, []int{i32}, none, code{opA(3, -1), opA(0x0c, 0), end}, true}, {none, []int{i64}, none, code{c32, opA(3, 2), opA(0x0c, 0), end}, true}, {none, []int{i64}, none, code{c32, opA(3, 2), dropped, c64, opA(0x0c, 0), end}, false},
		{none, []int{i32}, none, code{c32, c32, opA(0x0d, 0)}, true}, {none, []int{i32}, none, code{c32, c64, opA(0x0d, 0)}, false}, {none, []int{i32}, none, code{c32, opA(0x0d, 0)}, false}, {none, none, none, code{c32, opA(0x0d, 1)}, false}, {none, []int{i32, i64}, none, code{dead, opA(0x0d, 0), dropped, dropped}, true}, {none, []int{i32}, none, code{dead, opA(0x0d, 0), add64}, false}, {none, []int{i32}, none, code{dead, opA(0x0d, 0)}, true}, {none, none, none, code{dead, opA(0x0c, 1)}, false},
		// br_table
		{none, none, none, code{c32, table(0)}, true}, {none, none, none, code{c32, table(0, 0, 0)}, true}, {none, none, none, code{c32, table(1)}, false}, {none, none, none, code{c32, table(0, 1)}, false}, {none, none, none, code{table(0)}, false}, {none, none, none, code{c64, table(0)}, false}, {none, []int{i32}, none, code{c32, c32, table(0, 0)}, true},
		{none, []int{i32}, none, code{opA(2, -1), c32, c32, table(0, 1, 0), end}, true}, {none, []int{i32}, none, code{opA(2, -2), c32, c32, table(1, 0), end, dropped, c32}, false}, {none, []int{i32}, none, code{opA(2, -2), c32, c32, table(1), end, dropped, c32}, true}, {none, []int{i32}, none, code{opA(2, empty), c32, c32, table(1, 0), end, c32}, false}, {none, []int{i32}, none, code{opA(3, -1), c32, c32, table(1, 0), end}, false},
		{none, []int{i32}, none, code{dead, opA(2, empty), dead, table(0, 1), end}, false}, {none, []int{i32}, none, code{opA(2, -1), dead, table(0, 1), end}, true},
		// return
		{none, []int{i32}, none, code{c32, ret}, true}, {none, []int{i32}, none, code{c64, c32, ret, c32}, true}, {none, []int{i32}, none, code{ret}, false}, {none, []int{i32}, none, code{opA(2, empty), c32, ret, end, c32}, true}, {none, []int{i32}, none, code{opA(2, empty), c64, ret, end, c32}, false}, {none, []int{i32}, none, code{opA(3, -2), c32, ret, end, dropped, c32}, true},
		// calls
		{none, []int{i64}, none, code{c32, opA(0x10, 0)}, true}, {none, []int{i64}, none, code{c64, opA(0x10, 0)}, false}, {none, []int{i64}, none, code{opA(0x10, 0)}, false}, {none, none, none, code{opA(0x10, 1)}, true}, {none, []int{v128, i32}, none, code{c32, cv, opA(0x10, 2)}, true}, {none, []int{v128, i32}, none, code{cv, c32, opA(0x10, 2)}, false}, {none, none, none, code{opA(0x10, 3)}, false}, {none, none, none, code{dead, opA(0x10, 3)}, false},
		{none, []int{i64}, none, code{c32, c32, opAB(0x11, 2, 0)}, true}, {none, []int{i64}, none, code{c32, opAB(0x11, 2, 0)}, false}, {none, []int{i64}, none, code{c32, c64, opAB(0x11, 2, 0)}, false}, {none, []int{i64}, none, code{c32, c32, opAB(0x11, 2, 1)}, false}, {none, none, none, code{c32, opAB(0x11, 7, 0)}, false}, {none, none, none, code{c32, opAB(0x11, 1, 0)}, true}, {none, []int{v128, i32}, none, code{c32, cv, c32, opAB(0x11, 3, 0)}, true},
		// immediates
		{none, []int{i32}, none, code{cv, opA(0xfd15, 15)}, true}, {none, []int{i32}, none, code{cv, opA(0xfd15, 16)}, false}, {none, []int{i64}, none, code{cv, opA(0xfd1d, 1)}, true}, {none, []int{i64}, none, code{cv, opA(0xfd1d, 2)}, false}, {none, []int{v128}, none, code{cv, c32, opA(0xfd1a, 7)}, true}, {none, []int{v128}, none, code{cv, c32, opA(0xfd1a, 8)}, false}, {none, []int{i32}, none, code{dead, opA(0xfd1b, 4)}, false},
		{none, []int{v128}, none, code{c32, opA(0xfd00, 4)}, true}, {none, []int{v128}, none, code{c32, opA(0xfd00, 5)}, false}, {none, []int{i32}, none, code{c32, opA(0x28, 2)}, true}, {none, []int{i32}, none, code{c32, opA(0x28, 3)}, false}, {none, []int{i32}, none, code{c32, opA(0x2c, 1)}, false}, {none, none, none, code{c32, c64, opAB(0x37, 3, 1<<32-1)}, true}, {none, none, none, code{c32, c32, opAB(0x37, 3, 0)}, false},
		{none, []int{v128}, none, code{c32, cv, {Op: 0xfd54, Lo: 15}}, true}, {none, []int{v128}, none, code{c32, cv, {Op: 0xfd54, Lo: 16}}, false}, {none, []int{v128}, none, code{c32, cv, {Op: 0xfd57, A: 3, Lo: 1}}, true}, {none, []int{v128}, none, code{c32, cv, {Op: 0xfd57, A: 3, Lo: 2}}, false}, {none, none, none, code{c32, cv, {Op: 0xfd59, A: 1, Lo: 7}}, true}, {none, none, none, code{c32, cv, {Op: 0xfd59, A: 2, Lo: 7}}, false}, {none, none, none, code{c32, cv, {Op: 0xfd59, Lo: 8}}, false},
		{none, []int{v128}, none, code{cv, cv, {Op: 0xfd0d, Lo: 0x1f1f1f1f1f1f1f1f, Hi: 0x1f00000000000000}}, true}, {none, []int{v128}, none, code{cv, cv, {Op: 0xfd0d, Lo: 0x20}}, false}, {none, []int{v128}, none, code{cv, cv, {Op: 0xfd0d, Hi: 0x2000000000000000}}, false}, {none, []int{v128}, none, code{cv, cv, {Op: 0xfd0d, Hi: 0x8000}}, false}, {none, []int{v128}, none, code{cv, cv, {Op: 0xfd0d, Lo: 0x40000000}}, false},
		{none, []int{i32}, none, code{op(0x3f)}, true}, {none, []int{i32}, none, code{c32, op(0x40)}, true}, {none, []int{i32}, none, code{op(0x40)}, false},
	}
	for i, r := range rows {
		want := api.ErrValid
		if r.ok {
			want = 0
		}
		m := with(r.in, r.out, r.locals, r.body...)
		check(t, i, m, want)
		if marks, e := valid.Marks(m, 0); e != want || r.ok && len(marks) != len(r.body)+1 || !r.ok && marks != nil {
			t.Error(i, marks, e)
		}
		if _, e := valid.Marks(m, 1); e != want {
			t.Error(i, e)
		}
	}
}

// P15.2: each body by its own function's type, behind the imports.
func TestFunctions(t *testing.T) {
	of := func(swap bool) api.Module {
		m := with(nil, []int{i32}, nil, c32)
		m.Codes[1].Body = code{cv, c32, end}
		m.Funcs = append(m.Funcs, 5)
		m.Codes = append(m.Codes, api.Code{Locals: []int{i64}, Body: code{opA(0x20, 1), op(0xa7), end}})
		if swap {
			m.Funcs[1], m.Funcs[2] = m.Funcs[2], m.Funcs[1]
		}
		return m
	}
	check(t, "as they are", of(false), 0)
	check(t, "swapped", of(true), api.ErrValid)
	if marks, e := valid.Marks(of(false), 1); e != 0 || !slices.Equal(marks, []api.Mark{live(0, 0), live(1, 1), live(2, 1)}) {
		t.Error(marks, e)
	}
}

// P15.2: each plain instruction takes and gives what chapter 4 says, and no
// other types.
func TestPlain(t *testing.T) {
	consts := map[int]api.Instr{i32: c32, i64: c64, v128: cv}
	for n := range 0x10000 {
		info, ok := instr.Of(n)
		if !ok || !info.Plain {
			continue
		}
		for k := -1; k < len(info.In); k++ {
			var body code
			for i, typ := range info.In {
				c := consts[typ]
				if i == k {
					c = map[int]api.Instr{i32: c64, i64: cv, v128: c32}[typ]
				}
				body = append(body, c)
			}
			body = append(body, op(n))
			want := api.OK
			if k >= 0 {
				want = api.ErrValid
			}
			check(t, n, with(nil, info.Out, nil, body...), want)
			if k >= 0 && len(body) > 1 {
				check(t, n, with(nil, info.Out, nil, body[1:]...), api.ErrValid)
			}
			m := with(nil, info.Out, nil, body...)
			m.Mems = nil
			if f := info.Form; f == api.FormMem || f == api.FormMemLane || f == api.FormZero {
				want = api.ErrValid
			}
			check(t, n, m, want)
		}
	}
}

// P15.2: types, limits, globals, exports, start and segments.
func TestModules(t *testing.T) {
	type change func(*api.Module)
	at := func(k uint64) code { return code{{Op: 0x41, Lo: k}, end} }
	good := []change{
		func(m *api.Module) {}, func(m *api.Module) { m.Mems, m.Tables = nil, nil }, func(m *api.Module) { m.Mems[0].Max = 65536 }, func(m *api.Module) { m.Mems[0].Max = 1 }, func(m *api.Module) { m.Tables[0].Max = 1<<32 - 1 }, func(m *api.Module) { m.Tables[0].Max = 1 },
		func(m *api.Module) { m.Start = 1 }, func(m *api.Module) {
			m.Exports = []api.Export{{Name: "a"}, {Name: "b"}, {Name: "", Kind: 1}, {Name: "c", Kind: 2}, {Name: "d", Kind: 3, Index: 1}, {Name: "e", Index: 2}}
		},
		func(m *api.Module) { m.Elems = []api.Elem{{Offset: at(1 << 31), Funcs: []int{0, 1, 2}}} }, func(m *api.Module) { m.Datas = []api.Data{{Offset: at(1<<32 - 1), Bytes: []byte{1}}} },
		func(m *api.Module) { m.Globals = append(m.Globals, api.Global{Type: i64, Init: code{c64, end}}) },
	}
	bad := []change{
		func(m *api.Module) { m.Imports[0].Type = 7 }, func(m *api.Module) { m.Funcs[1] = 7 }, func(m *api.Module) { m.Tables = append(m.Tables, m.Tables[0]) }, func(m *api.Module) { m.Mems = append(m.Mems, m.Mems[0]) },
		func(m *api.Module) { m.Mems[0].Max = 65537 }, func(m *api.Module) { m.Mems[0].Max = 0 }, func(m *api.Module) { m.Tables[0].Max = 0 },
		func(m *api.Module) { m.Globals[0].Init = code{c32, end} }, func(m *api.Module) { m.Globals[1].Init = code{c64, end} }, func(m *api.Module) { m.Globals[1].Init = code{end} }, func(m *api.Module) { m.Globals[1].Init = code{c32, c32, add32, end} }, func(m *api.Module) { m.Globals[1].Init = code{opA(0x23, 1), end} }, func(m *api.Module) { m.Globals[1].Init = code{c32, nop, end} }, func(m *api.Module) { m.Globals[1].Init = code{dead, end} },
		func(m *api.Module) { m.Start = 0 }, func(m *api.Module) { m.Start = 2 }, func(m *api.Module) { m.Start = 3 }, func(m *api.Module) { m.Start = 1; m.Types[0].Out = []int{i32}; m.Codes[0].Body = code{c32, end} }, func(m *api.Module) { m.Start = 1; m.Types[0].In = []int{i32} },
		func(m *api.Module) { m.Exports = []api.Export{{Name: "a"}, {Name: "a", Kind: 1}} }, func(m *api.Module) { m.Exports = []api.Export{{Name: "a", Index: 3}} }, func(m *api.Module) { m.Exports = []api.Export{{Name: "a", Kind: 1, Index: 1}} }, func(m *api.Module) { m.Exports = []api.Export{{Name: "a", Kind: 2, Index: 1}} }, func(m *api.Module) { m.Exports = []api.Export{{Name: "a", Kind: 3, Index: 2}} }, func(m *api.Module) { m.Mems = nil; m.Exports = []api.Export{{Name: "a", Kind: 2}} },
		func(m *api.Module) { m.Tables = nil; m.Elems = []api.Elem{{Offset: at(0)}} }, func(m *api.Module) { m.Elems = []api.Elem{{Offset: at(0), Funcs: []int{3}}} }, func(m *api.Module) { m.Elems = []api.Elem{{Offset: code{c64, end}}} }, func(m *api.Module) { m.Elems = []api.Elem{{Offset: code{c32, nop, end}}} }, func(m *api.Module) { m.Elems = []api.Elem{{Offset: code{opA(0x23, 1), end}}} },
		func(m *api.Module) { m.Mems = nil; m.Datas = []api.Data{{Offset: at(0)}} }, func(m *api.Module) { m.Datas = []api.Data{{Offset: code{c64, end}}} }, func(m *api.Module) { m.Datas = []api.Data{{Offset: code{end}}} },
		func(m *api.Module) { m.Codes[1].Body = code{end} }, func(m *api.Module) { m.Tables = nil; m.Codes[0].Body = code{c32, opAB(0x11, 1, 0), end} },
	}
	for i, c := range slices.Concat(good, bad) {
		m := with(nil, nil, nil)
		c(&m)
		want := api.ErrValid
		if i < len(good) {
			want = 0
		}
		check(t, i, m, want)
		if want != 0 {
			m.Datas = append(m.Datas, api.Data{Offset: at(0), Bytes: make([]byte, 20000)})
			check(t, i, m, api.ErrLong)
			m.Start = -2
			check(t, i, m, api.ErrArg)
		}
	}
}

// P15.1
func TestSig(t *testing.T) {
	m := with([]int{v128}, []int{i32, i64}, nil)
	m.Funcs = []int{0, 7, -1, math.MaxInt, 1}
	m.Imports = []api.Import{{Type: 2}, {Type: 9}, {Type: math.MinInt}}
	m.Codes, m.Start = nil, -77 // not looked at
	want := map[int]api.Sig{0: {In: []int{i32}, Out: []int{i64}}, 3: {In: []int{v128}, Out: []int{i32, i64}}, 7: {}}
	for _, f := range []int{math.MinInt, -1, 0, 1, 2, 3, 4, 5, 6, 7, 8, 9, math.MaxInt} {
		s, ok := valid.Sig(m, f)
		w, there := want[f]
		if ok != there || !slices.Equal(s.In, w.In) || !slices.Equal(s.Out, w.Out) {
			t.Error(f, s, ok)
		}
	}
	s, _ := valid.Sig(m, 3)
	s.In[0], s.Out[0] = 1, 2
	if m.Types[0].In[0] != v128 || m.Types[0].Out[0] != i32 {
		t.Error("Sig shares memory")
	}
	if _, ok := valid.Sig(api.Module{}, 0); ok {
		t.Error("of no module")
	}
}

func live(height, vecs int) api.Mark { return api.Mark{Live: true, Height: height, Vecs: vecs} }

// P15.3
func TestMarks(t *testing.T) {
	no := api.Mark{}
	rows := []struct {
		out  []int
		body code
		want []api.Mark
	}{
		{[]int{i32}, code{c32}, []api.Mark{live(0, 0), live(1, 0)}}, {nil, nil, []api.Mark{live(0, 0)}},
		{[]int{i32}, code{dead, add32}, []api.Mark{live(0, 0), no, no}},
		{nil, code{opA(2, -1), c32, opA(0x0c, 0), end, dropped}, []api.Mark{live(0, 0), live(0, 0), live(1, 0), no, live(1, 0), live(0, 0)}},
		{nil, code{cv, c32, cv, op(0xfd53), add32, dropped, dropped}, []api.Mark{live(0, 0), live(1, 1), live(2, 1), live(3, 2), live(3, 1), live(2, 1), live(1, 1), live(0, 0)}},
		{nil, code{c32, opA(4, empty), ret, nop, els, nop, end}, []api.Mark{live(0, 0), live(1, 0), live(0, 0), no, no, live(0, 0), live(0, 0), live(0, 0)}},
		{nil, code{c32, opA(4, empty), nop, els, dead, end, nop}, []api.Mark{live(0, 0), live(1, 0), live(0, 0), live(0, 0), live(0, 0), no, live(0, 0), live(0, 0)}},
		{nil, code{c32, opA(4, empty), dead, els, dead, nop, end, nop}, []api.Mark{live(0, 0), live(1, 0), live(0, 0), no, live(0, 0), no, no, live(0, 0), live(0, 0)}},
		{nil, code{dead, opA(2, empty), nop, end, c32, opA(4, empty), nop, els, nop, end, opA(3, empty), end}, append([]api.Mark{live(0, 0)}, make([]api.Mark, 12)...)},
		{nil, code{cv, c64, c32, opA(3, 5), c32, table(1), c32, end, dropped, dropped, dropped}, []api.Mark{live(0, 0), live(1, 1), live(2, 1), live(3, 1), live(3, 1), live(4, 1), no, no, live(3, 1), live(2, 1), live(1, 1), live(0, 0)}},
		{nil, code{cv, dead, cv, dropped}, []api.Mark{live(0, 0), live(1, 1), no, no, no}},
		{nil, code{cv, opA(2, -5), cv, cv, dead, end, dropped, dropped}, []api.Mark{live(0, 0), live(1, 1), live(1, 1), live(2, 2), live(3, 3), no, live(2, 2), live(1, 1), live(0, 0)}},
		{nil, code{cv, cv, c32, choose, opA(0x24, 0)}, []api.Mark{live(0, 0), live(1, 1), live(2, 2), live(3, 2), live(1, 1), live(0, 0)}},
		{nil, code{c32, opA(0x0d, 0), c32, cv, opA(0x10, 2), dropped, dropped}, []api.Mark{live(0, 0), live(1, 0), live(0, 0), live(1, 0), live(2, 1), live(2, 1), live(1, 1), live(0, 0)}},
		{nil, code{opA(2, empty), opA(0x0c, 1), end, nop}, []api.Mark{live(0, 0), live(0, 0), no, live(0, 0), live(0, 0)}},
	}
	for i, r := range rows {
		m := with(nil, r.out, nil, r.body...)
		m.Types[0].Out = r.out
		marks, e := valid.Marks(m, 0)
		if e != 0 || !slices.Equal(marks, r.want) {
			t.Errorf("%d: %v %d, want %v", i, marks, e, r.want)
		}
	}
}

// P15.3: ErrArg, then what Check tells.
func TestMarksErrors(t *testing.T) {
	m := with(nil, nil, nil)
	for _, f := range []int{math.MinInt, -1, 2, 3, math.MaxInt} {
		if marks, e := valid.Marks(m, f); marks != nil || e != api.ErrArg {
			t.Error(f, marks, e)
		}
	}
	if marks, e := valid.Marks(m, 1); len(marks) != 2 || e != 0 {
		t.Error(marks, e)
	}
	m.Codes[0].Body = code{c32, end}
	for f, want := range map[int]api.Errno{0: api.ErrValid, 1: api.ErrValid, 2: api.ErrArg, -1: api.ErrArg} {
		if marks, e := valid.Marks(m, f); marks != nil || e != want {
			t.Error(f, marks, e)
		}
	}
	m.Datas = []api.Data{{Offset: code{c32, end}, Bytes: make([]byte, 20000)}}
	for f, want := range map[int]api.Errno{0: api.ErrLong, 2: api.ErrArg} {
		if marks, e := valid.Marks(m, f); marks != nil || e != want {
			t.Error(f, marks, e)
		}
	}
	m.Start = -2
	if marks, e := valid.Marks(m, 0); marks != nil || e != api.ErrArg {
		t.Error(marks, e)
	}
}

// P15.4
func TestMemory(t *testing.T) {
	make1 := func() api.Module {
		m := with([]int{i32}, []int{v128}, []int{i64}, cv, c32, table(0, 0))
		m.Exports = []api.Export{{Name: "a"}}
		return m
	}
	m := make1()
	valid.Check(m)
	one, _ := valid.Marks(m, 0)
	two, _ := valid.Marks(m, 0)
	one[0].Height = 9
	if two[0].Height != 0 || !reflect.DeepEqual(m, make1()) {
		t.Error("memory is shared, or what was handed in has changed")
	}
}
