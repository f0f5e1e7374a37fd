package interp_test

import (
	"bytes"
	"math"
	"reflect"
	"slices"
	"testing"

	"plait/api"
	"plait/host"
	"plait/instr"
	"plait/interp"
	"plait/num"
	"plait/store"
	"plait/vector"
)

type code = []api.Instr

func op(n int) api.Instr         { return api.Instr{Op: n} }
func opA(n, a int) api.Instr     { return api.Instr{Op: n, A: a} }
func opAB(n, a, b int) api.Instr { return api.Instr{Op: n, A: a, B: b} }
func c32(x uint32) api.Instr     { return api.Instr{Op: 0x41, Lo: uint64(x)} }
func c64(x uint64) api.Instr     { return api.Instr{Op: 0x42, Lo: x} }
func cv(lo, hi uint64) api.Instr { return api.Instr{Op: 0xfd0c, Lo: lo, Hi: hi} }
func table(a int, l ...int) api.Instr {
	return api.Instr{Op: 0x0e, A: a, L: l}
}

const (
	i32, i64, v128 = api.I32, api.I64, api.V128
	empty          = api.Empty
)

var end, els, idle, dead, ret, drop1, sel, add32, sub32 = op(0x0b), op(5), op(1), op(0), op(0x0f), op(0x1a), op(0x1b), op(0x6a), op(0x6b)

// fn is a function of a module under test.
type fn struct {
	in, out, locals []int
	body            code
}

// with is a module of functions; the types of the functions come first, and
// behind them a few more, from the number len(fns) on: (i32) to (i32, i64),
// (i32, i32) to (i32), (i32) to none.
func with(fns ...fn) api.Module {
	m := api.Module{
		Start: -1, Tables: []api.Limits{{Min: 6, Max: -1}}, Mems: []api.Limits{{Min: 1, Max: 3}},
		Globals: []api.Global{
			{Type: i32, Mut: true, Init: code{c32(7), end}}, {Type: v128, Mut: true, Init: code{cv(1, 2), end}}, {Type: i64, Mut: true, Init: code{c64(9), end}},
		},
	}
	for i, f := range fns {
		m.Types = append(m.Types, api.Sig{In: f.in, Out: f.out})
		m.Funcs = append(m.Funcs, i)
		m.Codes = append(m.Codes, api.Code{Locals: f.locals, Body: append(slices.Clone(f.body), end)})
	}
	m.Types = append(m.Types, api.Sig{In: []int{i32}, Out: []int{i32, i64}}, api.Sig{In: []int{i32, i32}, Out: []int{i32}}, api.Sig{In: []int{i32}})
	return m
}

func machine(t *testing.T, m api.Module) (*interp.Machine, *store.Store, *host.Host) {
	t.Helper()
	s, e := store.New(m)
	if e != 0 {
		t.Fatalf("store.New: %d", e)
	}
	h := host.New(101, 102, 103)
	return interp.New(s, h), s, h
}

// same tells whether two outcomes are alike.
func alike(a, b api.Outcome) bool {
	return a.Err == b.Err && a.Code == b.Code && a.Left == b.Left && slices.Equal(a.Results, b.Results)
}

func runs(t *testing.T, what any, m *interp.Machine, f int, args []uint64, fuel int, want api.Outcome) {
	t.Helper()
	if got := m.Run(f, args, fuel); !alike(got, want) || got.Err != 0 && got.Results != nil {
		t.Errorf("%v: %+v, want %+v", what, got, want)
	}
}

func ok(left int, results ...uint64) api.Outcome {
	return api.Outcome{Results: results, Left: left}
}

func fails(e api.Errno, left int) api.Outcome { return api.Outcome{Err: e, Left: left} }

// P18.1: bodies, by what they give for arguments, with 100 fuel.
func TestBodies(t *testing.T) {
	three := []int{i32, i32, i32}
	rows := []struct {
		name string
		f    fn
		args []uint64
		want api.Outcome
	}{
		{"nothing", fn{}, nil, ok(100)},
		{"constants", fn{out: []int{i32, i64, v128}, body: code{c32(1<<32 - 1), c64(1<<64 - 1), cv(5, 6)}}, nil, ok(97, 1<<32-1, 1<<64-1, 5, 6)},
		{"add one", fn{in: []int{i32}, out: []int{i32}, body: code{opA(0x20, 0), c32(1), add32}}, []uint64{1<<40 + 41}, ok(97, 42)},
		{"order of operands", fn{out: []int{i32}, body: code{c32(10), c32(3), sub32}}, nil, ok(97, 7)},
		{"arguments by the pair map", fn{in: []int{v128, i32, i64}, out: []int{i64, i32, v128}, body: code{opA(0x20, 2), opA(0x20, 1), opA(0x20, 0)}}, []uint64{1, 2, 1<<40 + 3, 1<<40 + 4}, ok(97, 1<<40+4, 3, 1, 2)},
		{"locals are zeros", fn{in: []int{i32}, out: []int{i32, i64, v128}, locals: []int{i32, i64, v128}, body: code{opA(0x20, 1), opA(0x20, 2), opA(0x20, 3)}}, []uint64{5}, ok(97, 0, 0, 0, 0)},
		{"set and tee", fn{in: []int{v128}, out: []int{v128, v128}, locals: []int{v128}, body: code{cv(7, 8), opA(0x22, 1), opA(0x21, 0), opA(0x20, 1), opA(0x20, 0)}}, []uint64{1, 2}, ok(95, 7, 8, 7, 8)},
		{"tee leaves", fn{in: []int{i32}, out: []int{i32}, body: code{c32(7), opA(0x22, 0), opA(0x20, 0), add32}}, []uint64{1}, ok(96, 14)},
		{"drop", fn{out: []int{i32}, body: code{c32(3), cv(1, 2), drop1}}, nil, ok(97, 3)},
		{"select first", fn{out: []int{v128}, body: code{cv(1, 2), cv(3, 4), c32(1 << 31), sel}}, nil, ok(96, 1, 2)},
		{"select second", fn{out: []int{v128}, body: code{cv(1, 2), cv(3, 4), c32(0), sel}}, nil, ok(96, 3, 4)},
		{"idle", fn{body: code{idle, idle}}, nil, ok(98)},
		{"unreachable", fn{body: code{idle, dead, idle}}, nil, fails(api.TrapUnreachable, 98)},
		{"divide", fn{out: []int{i32}, body: code{c32(1), c32(0), op(0x6d)}}, nil, fails(api.TrapZero, 97)},
		{"overflow", fn{out: []int{i64}, body: code{c64(1 << 63), c64(1<<64 - 1), op(0x7f)}}, nil, fails(api.TrapOver, 97)},
		{"vectors", fn{out: []int{v128}, body: code{cv(1, 2), cv(3, 4), op(0xfdce)}}, nil, ok(97, 4, 6)},
		{"lanes", fn{out: []int{i64}, body: code{cv(7, 9), opA(0xfd1d, 1)}}, nil, ok(98, 9)},
		{"shuffle", fn{out: []int{v128}, body: code{cv(0x0706050403020100, 0), cv(0x1716151413121110, 0), {Op: 0xfd0d, Lo: 0x1716151413121110, Hi: 0x0001020304050607}}}, nil, ok(97, 0x1716151413121110, 0x0001020304050607)},
		// blocks
		{"block", fn{out: []int{i32}, body: code{opA(2, -1), c32(4), end}}, nil, ok(98, 4)},
		{"block with parameters", fn{out: []int{i32, i64}, body: code{c32(4), opA(2, 1), c64(5), end}}, nil, ok(97, 4, 5)},
		{"if yes", fn{in: []int{i32}, out: []int{i32}, body: code{opA(0x20, 0), opA(4, -1), c32(1), els, c32(2), idle, end}}, []uint64{1 << 31}, ok(97, 1)},
		{"if no", fn{in: []int{i32}, out: []int{i32}, body: code{opA(0x20, 0), opA(4, -1), c32(1), els, c32(2), idle, end}}, []uint64{1 << 32}, ok(96, 2)},
		{"if without else, no", fn{in: []int{i32}, body: code{opA(0x20, 0), opA(4, empty), dead, end, idle}}, []uint64{0}, ok(97)},
		{"if with parameters", fn{in: []int{i32}, out: []int{i32}, body: code{c32(9), c32(5), opA(0x20, 0), opA(4, 2), add32, els, sub32, end}}, []uint64{0}, ok(95, 4)},
		{"nested ifs", fn{in: []int{i32}, out: []int{i32}, body: code{opA(0x20, 0), opA(4, -1), c32(0), opA(4, -1), c32(1), els, c32(2), end, els, dead, end}}, []uint64{1}, ok(95, 2)},
		// branches
		{"br", fn{out: []int{i32}, body: code{opA(2, -1), cv(0, 0), c64(8), c32(4), opA(0x0c, 0), end}}, nil, ok(95, 4)},
		{"br out", fn{out: []int{i32}, body: code{opA(2, empty), opA(2, -1), c32(4), opA(0x0c, 2), end, drop1, end, c32(5)}}, nil, ok(96, 4)},
		{"br skips", fn{out: []int{i32}, body: code{opA(2, empty), opA(2, empty), opA(0x0c, 1), end, dead, end, c32(5)}}, nil, ok(96, 5)},
		{"br keeps what lies below", fn{out: []int{i32, i32}, body: code{c32(1), opA(2, -1), c32(7), c32(2), opA(0x0c, 0), end}}, nil, ok(95, 1, 2)},
		{"br_if yes", fn{in: []int{i32}, out: []int{i32}, body: code{opA(2, -1), c32(7), c32(4), opA(0x20, 0), opA(0x0d, 0), sub32, end}}, []uint64{1}, ok(95, 4)},
		{"br_if no", fn{in: []int{i32}, out: []int{i32}, body: code{opA(2, -1), c32(7), c32(4), opA(0x20, 0), opA(0x0d, 0), sub32, end}}, []uint64{0}, ok(94, 3)},
		{"br to a loop", fn{in: []int{i32}, out: []int{i32}, locals: []int{i32}, body: code{opA(3, empty), opA(0x20, 1), opA(0x20, 0), add32, opA(0x21, 1), opA(0x20, 0), c32(1), sub32, opA(0x22, 0), opA(0x0d, 0), end, opA(0x20, 1)}}, []uint64{4}, ok(100-1-4*9-1, 10)},
		{"loop with parameters", fn{in: []int{i32}, out: []int{i32}, body: code{c32(1), opA(0x20, 0), opA(3, 2), opA(0x22, 0), drop1, c32(2), op(0x6c), opA(0x20, 0), c32(1), sub32, opA(0x20, 0), c32(1), sub32, opA(0x0d, 0), drop1, end}}, []uint64{3}, ok(100-3-3*11-1, 8)},
		{"return", fn{out: []int{i32}, body: code{c64(1), opA(2, empty), cv(1, 1), c32(3), ret, end, drop1, dead}}, nil, ok(95, 3)},
		{"br of the function's label", fn{out: []int{i32, i64}, body: code{c64(1), c32(3), c64(4), opA(0x0c, 0)}}, nil, ok(96, 3, 4)},
		{"br behind closed blocks", fn{out: []int{i32}, body: code{opA(2, empty), opA(3, empty), end, end, c32(1), opA(4, empty), idle, els, end, opA(2, -1), c32(5), opA(0x0c, 0), end}}, nil, ok(92, 5)},
		{"br past closed blocks", fn{out: []int{i32}, body: code{opA(2, empty), end, opA(2, empty), c32(5), opA(0x0c, 1), end, dead}}, nil, ok(96, 5)},
		{"br past blocks that were left", fn{out: []int{i32}, body: code{opA(2, empty), opA(0x0c, 0), end, opA(2, empty), c32(5), opA(0x0c, 1), end, dead}}, nil, ok(95, 5)},
		{"br out of a block with parameters", fn{out: []int{i32}, body: code{c32(8), c32(1), c32(2), opA(2, 2), drop1, c32(7), opA(0x0c, 0), end, sub32, drop1, c32(6)}}, nil, ok(90, 6)},
		{"br takes its parameters away", fn{out: []int{i32}, body: code{c32(8), c32(1), c32(2), opA(2, 2), c32(7), opA(0x0c, 0), end, sub32}}, nil, ok(93, 1)},
		{"a block of the first type", fn{in: []int{i32}, out: []int{i32}, body: code{c32(8), opA(0x20, 0), opA(2, 0), c32(1), add32, opA(0x0c, 0), end, sub32}}, []uint64{2}, ok(93, 5)},
		{"a loop of the first type", fn{in: []int{i32}, out: []int{i32}, body: code{opA(0x20, 0), opA(3, 0), c32(1), sub32, opA(0x22, 0), opA(0x20, 0), opA(0x0d, 0), end}}, []uint64{3}, ok(83, 0)},
		// memory
		{"size and grow", fn{out: three, body: code{c32(1), op(0x40), op(0x3f), c32(9), op(0x40)}}, nil, ok(95, 1, 2, 1<<32-1)},
		{"store and load", fn{out: []int{i64, i32}, body: code{c32(10), c64(0x1122334455667788), opAB(0x37, 3, 6), c32(16), op(0x29), c32(15), opAB(0x2d, 0, 2)}}, nil, ok(93, 0x1122334455667788, 0x77)},
		{"signed loads", fn{out: []int{i32, i64}, body: code{c32(0), c32(0x80ff), op(0x3b), c32(0), op(0x2c), c32(0), op(0x32)}}, nil, ok(93, 1<<32-1, 1<<64-0x7f01)},
		{"load at the end", fn{out: []int{i32}, body: code{c32(0), opAB(0x28, 2, 65532)}}, nil, ok(98, 0)},
		{"load beyond", fn{body: code{c32(0), opAB(0x28, 2, 65533), drop1}}, nil, fails(api.TrapBounds, 98)},
		{"load far beyond", fn{body: code{c32(1<<32 - 1), opAB(0x2d, 0, 1<<32-1), drop1}}, nil, fails(api.TrapBounds, 98)},
		{"no round trip of 32 bits", fn{body: code{c32(1<<32 - 1), opAB(0x2d, 0, 1), drop1}}, nil, fails(api.TrapBounds, 98)},
		{"vector at the end", fn{out: []int{v128}, body: code{c32(65520), cv(1, 2), op(0xfd0b), c32(65520), op(0xfd00)}}, nil, ok(95, 1, 2)},
		{"vector beyond", fn{body: code{c32(65521), cv(1, 2), op(0xfd0b)}}, nil, fails(api.TrapBounds, 97)},
		{"load lane", fn{out: []int{v128}, body: code{c32(0), c64(0xab), op(0x37), c32(0), cv(1, 2), {Op: 0xfd54, Lo: 8}}}, nil, ok(94, 1, 0xab)},
		// globals
		{"globals", fn{out: []int{i32, v128, i64}, body: code{opA(0x23, 0), opA(0x23, 1), opA(0x23, 2)}}, nil, ok(97, 7, 1, 2, 9)},
		{"set globals", fn{out: []int{i32, v128, i64}, body: code{c32(3), opA(0x24, 0), cv(4, 5), opA(0x24, 1), c64(6), opA(0x24, 2), opA(0x23, 0), opA(0x23, 1), opA(0x23, 2)}}, nil, ok(91, 3, 4, 5, 6)},
	}
	for _, r := range rows {
		m := with(r.f)
		// The types behind the function's own are numbered from 1 on.
		mach, _, _ := machine(t, m)
		runs(t, r.name, mach, 0, r.args, 100, r.want)
	}
}

// P18.1: every operator and every vector's instruction without memory does what
// its layer says.
func TestOperators(t *testing.T) {
	get := func(in []int) code {
		var body code
		for i := range in {
			body = append(body, opA(0x20, i))
		}
		return body
	}
	args := []uint64{0x80ff7f0112345678, 0xfedcba9876543210, 0x0102030405060708, 0xf0e0d0c0b0a09080, 3, 17}
	for n := range 0x10000 {
		info, known := instr.Of(n)
		if !known || num.Arity(n) == 0 && !vector.Is(n) {
			continue
		}
		in := api.Instr{Op: n}
		if info.Form == api.FormV128 || info.Form == api.FormShuffle {
			in.Lo, in.Hi = 0x1f00010203040516, 0x0708090a0b0c0d0e
		}
		if info.Form == api.FormLane {
			in.A = 1
		}
		m, _, _ := machine(t, with(fn{in: info.In, out: info.Out, body: append(get(info.In), in)}))
		var hs []uint64
		for _, typ := range info.In {
			hs = append(hs, args[len(hs)])
			if typ == v128 {
				hs = append(hs, args[len(hs)])
			}
		}
		want := ok(100 - len(info.In) - 1)
		if num.Arity(n) == 1 {
			x, e := num.Un(n, hs[0])
			want.Results, want.Err = []uint64{x}, e
		} else if num.Arity(n) == 2 {
			x, e := num.Bin(n, hs[0], hs[1])
			want.Results, want.Err = []uint64{x}, e
		} else {
			want.Results, want.Err = vector.Do(in, hs...)
		}
		runs(t, n, m, 0, hs, 100, want)
	}
}

// P18.1: br_table, by each label and beyond.
func TestTable(t *testing.T) {
	m, _, _ := machine(t, with(fn{in: []int{i32}, out: []int{i32}, body: code{
		opA(2, empty), opA(2, empty), opA(2, empty), opA(0x20, 0), table(0, 1, 2, 1), end, c32(10), ret, end, c32(11), ret, end, c32(12),
	}}))
	for x, want := range map[uint64]uint64{0: 11, 1: 12, 2: 11, 3: 10, 4: 10, 1<<32 - 1: 10, 1 << 31: 10} {
		left := 93
		if want == 12 {
			left = 94
		}
		runs(t, x, m, 0, []uint64{x}, 100, ok(left, want))
	}
	m, _, _ = machine(t, with(fn{in: []int{i32}, out: []int{i32}, body: code{opA(2, -1), c64(1), c32(5), opA(0x20, 0), table(1, 0), end, c32(1), add32}}))
	runs(t, "inner", m, 0, []uint64{0}, 100, ok(93, 6))
	runs(t, "outer", m, 0, []uint64{1}, 100, ok(95, 5))
}

// P18.1: calls, the depth, and what stays.
func TestCalls(t *testing.T) {
	calls := with(
		fn{in: []int{i32, v128}, out: []int{i32, v128, i32}, body: code{c32(50), opA(0x20, 1), opA(0x20, 0), opA(0x10, 1), drop1}},
		fn{in: []int{v128, i32}, out: []int{v128, i32, i64}, locals: []int{i64}, body: code{opA(0x20, 0), opA(0x20, 1), opA(0x20, 2), c64(77), opA(0x21, 2)}},
		fn{body: code{opA(0x23, 0), c32(1), add32, opA(0x24, 0), opA(0x10, 2)}},
		fn{in: []int{i32}, out: []int{i32}, body: code{opA(0x20, 0), opA(4, -1), opA(0x20, 0), c32(1), sub32, opA(0x10, 3), els, c32(5), end}},
	)
	m, _, _ := machine(t, with(fn{in: []int{i32}, body: code{opA(3, empty), opA(0x10, 1), opA(0x20, 0), c32(1), sub32, opA(0x22, 0), opA(0x0d, 0), end}}, fn{}))
	runs(t, "calls behind one another", m, 0, []uint64{100}, 1000, ok(1000-1-600))
	m, s, _ := machine(t, calls)
	runs(t, "a call", m, 0, []uint64{3, 1, 2}, 100, ok(90, 50, 1, 2, 3))
	runs(t, "depth", m, 2, nil, 1000, fails(api.TrapDepth, 1000-64*5))
	if x, _ := s.Slot(0); x != 7+64 {
		t.Error("what a run has done stays", x)
	}
	runs(t, "64 within one another", m, 3, []uint64{63}, 1000, ok(1000-63*6-3, 5))
	runs(t, "65 within one another", m, 3, []uint64{64}, 1000, fails(api.TrapDepth, 1000-64*6))
	runs(t, "again", m, 3, []uint64{63}, 1000, ok(1000-63*6-3, 5))
}

// P18.1: call_indirect.
func TestIndirect(t *testing.T) {
	m := with(
		fn{in: []int{i32}, out: []int{i64}, body: code{c32(8), opA(0x20, 0), opAB(0x11, 1, 0)}},
		fn{in: []int{i32}, out: []int{i64}, body: code{opA(0x20, 0), op(0xad)}},
		fn{in: []int{v128}, out: []int{i64}, body: code{c64(1)}},
		fn{in: []int{i32}, out: []int{i64}, body: code{c64(33)}},
	)
	m.Elems = []api.Elem{{Offset: code{c32(0), end}, Funcs: []int{1, 2}}, {Offset: code{c32(3), end}, Funcs: []int{3, 0}}}
	mach, _, _ := machine(t, m)
	runs(t, "of the type", mach, 0, []uint64{0}, 100, ok(95, 8))
	runs(t, "of a like type", mach, 0, []uint64{3}, 100, ok(96, 33))
	runs(t, "of another type", mach, 0, []uint64{1}, 100, fails(api.TrapSig, 97))
	for _, x := range []uint64{2, 5, 6, 1 << 31, 1<<32 - 1} {
		runs(t, x, mach, 0, []uint64{x}, 100, fails(api.TrapElem, 97))
	}
	runs(t, "itself", mach, 0, []uint64{4}, 1000, fails(api.TrapElem, 1000-3*2))
	// Types whose images are alike are other types.
	m = with(fn{out: []int{i64}, body: code{cv(1, 2), c32(0), opAB(0x11, 1, 0)}}, fn{in: []int{v128}, out: []int{i64}, body: code{c64(1)}}, fn{in: []int{i64, i64}, out: []int{i64}, body: code{c64(2)}})
	m.Elems = []api.Elem{{Offset: code{c32(0), end}, Funcs: []int{2}}}
	mach, _, _ = machine(t, m)
	runs(t, "a like image", mach, 0, nil, 100, fails(api.TrapSig, 97))
}

// imported is a module with two imports ahead of one function.
func imported(body ...api.Instr) api.Module {
	m := with(fn{in: []int{i32}, out: []int{v128, i32}, body: body})
	m.Types = append(m.Types, api.Sig{In: []int{i32, v128}, Out: []int{v128, i32}}, api.Sig{In: []int{i64}})
	m.Imports = []api.Import{{Module: "env", Name: "f", Type: 4}, {Module: "host", Name: "exit", Type: 5}}
	return m
}

// P18.1: imports cost no fuel; what they answer, and how they end a run.
func TestImports(t *testing.T) {
	m, _, h := machine(t, imported(opA(0x20, 0), cv(5, 6), opA(0x10, 0)))
	runs(t, "a call", m, 2, []uint64{1<<40 + 9}, 3, ok(0, 101, 102, 103))
	runs(t, "itself", m, 0, []uint64{1<<40 + 9, 1, 2}, 3, ok(3, 0, 0, 0))
	runs(t, "itself, no fuel", m, 0, []uint64{9, 1, 2}, -5, ok(0, 0, 0, 0))
	want := []api.Event{{Func: 0, Args: []uint64{9, 5, 6}}, {Func: 0, Args: []uint64{9, 1, 2}}, {Func: 0, Args: []uint64{9, 1, 2}}}
	if !reflect.DeepEqual(h.Log(), want) {
		t.Error(h.Log())
	}
	m, _, h = machine(t, imported(c32(0), c32(1), op(0x36), c64(1<<33+7), opA(0x10, 1), dead))
	runs(t, "exit", m, 2, []uint64{0}, 10, api.Outcome{Err: api.ErrExit, Code: 7, Left: 5})
	runs(t, "exit itself", m, 1, []uint64{8}, 10, api.Outcome{Err: api.ErrExit, Code: 8, Left: 10})
	runs(t, "no code but with ErrExit", m, 2, []uint64{0}, 0, fails(api.ErrFuel, 0))
	if h.Waiting() != 3 || len(h.Log()) != 2 {
		t.Error(h.Log())
	}
	m, _, h = machine(t, imported(opA(3, empty), c32(1), cv(0, 0), opA(0x10, 0), drop1, drop1, opA(0x0c, 0), end, dead))
	runs(t, "a full log", m, 2, []uint64{0}, 100000, fails(api.ErrLog, 100000-1-1024*6-3))
	if len(h.Log()) != 1024 {
		t.Error(len(h.Log()))
	}
}

// P18.1: fuel, at every amount: a run with less is a beginning of one with more.
func TestFuel(t *testing.T) {
	body := code{opA(2, empty), opA(0x23, 2), c64(1), op(0x7c), opA(0x24, 2), c32(1), opA(4, empty), opA(0x10, 1), els, dead, end, end, opA(3, empty), opA(0x0c, 0), end}
	for fuel := range 40 {
		m, s, _ := machine(t, with(fn{body: body}, fn{body: code{idle}}))
		runs(t, fuel, m, 0, nil, fuel, fails(api.ErrFuel, 0))
		want := uint64(9)
		if fuel >= 5 { // block, get, const, add, set
			want = 10
		}
		if x, _ := s.Slot(3); x != want {
			t.Error(fuel, x)
		}
	}
	m, _, _ := machine(t, with(fn{body: body}, fn{body: code{idle}}))
	for fuel, used := range map[int]int{-1: 0, math.MinInt: 0, math.MaxInt: 100000, 100001: 100000} {
		if out := m.Run(1, nil, fuel); used == 0 && (out.Err != api.ErrFuel || out.Left != 0) || used > 0 && (out.Err != 0 || out.Left != used-1) {
			t.Error(fuel, out)
		}
		if out := m.Run(0, nil, fuel); out.Err != api.ErrFuel || out.Left != 0 {
			t.Error(fuel, out)
		}
	}
	m, _, _ = machine(t, with(fn{body: code{opA(2, empty), opA(2, empty), end, end}}))
	runs(t, "ends are free", m, 0, nil, 2, ok(0))
	runs(t, "blocks are not", m, 0, nil, 1, fails(api.ErrFuel, 0))
	m, _, _ = machine(t, with(fn{out: []int{i32}, body: code{c32(1), c32(0), op(0x6d)}}))
	runs(t, "fuel goes ahead of a trap", m, 0, nil, 2, fails(api.ErrFuel, 0))
	runs(t, "and a trap has cost", m, 0, nil, 3, fails(api.TrapZero, 0))
}

// P18.1: a store that traps has changed nothing.
func TestTraps(t *testing.T) {
	for _, in := range []api.Instr{opAB(0xfd0b, 0, 65521), opAB(0xfd0b, 0, 65535), {Op: 0xfd5b, B: 65529}, {Op: 0xfd5a, B: 65533}} {
		m, s, _ := machine(t, with(fn{body: code{c32(0), cv(1<<64-1, 1<<64-1), in}}))
		runs(t, in, m, 0, nil, 10, fails(api.TrapBounds, 7))
		if b, _ := s.Memory().Peek(65500, 36); !bytes.Equal(b, make([]byte, 36)) {
			t.Error(in, b)
		}
	}
	for _, in := range []api.Instr{opAB(0x37, 0, 65529), opAB(0x3e, 0, 65533), opAB(0x3d, 0, 65535), opAB(0x3c, 0, 65536)} {
		m, s, _ := machine(t, with(fn{body: code{c32(0), c64(1<<64 - 1), in}}))
		runs(t, in, m, 0, nil, 10, fails(api.TrapBounds, 7))
		if b, _ := s.Memory().Peek(65500, 36); !bytes.Equal(b, make([]byte, 36)) {
			t.Error(in, b)
		}
	}
}

// P18.1: ErrNil, then ErrArg.
func TestErrors(t *testing.T) {
	s, _ := store.New(with(fn{in: []int{i32, v128}}))
	h := host.New()
	var none *interp.Machine
	for _, m := range []*interp.Machine{none, interp.New(nil, nil), interp.New(s, nil), interp.New(nil, h)} {
		for _, f := range []int{0, -1, 5} {
			runs(t, f, m, f, []uint64{1}, 10, fails(api.ErrNil, 0))
		}
	}
	if interp.New(nil, nil) == nil {
		t.Error("New answers nil")
	}
	m := interp.New(s, h)
	for _, f := range []int{-1, 1, math.MinInt, math.MaxInt} {
		runs(t, f, m, f, []uint64{1, 2, 3}, 10, fails(api.ErrArg, 0))
	}
	for _, n := range []int{0, 1, 2, 4, 5} {
		runs(t, n, m, 0, make([]uint64, n), 10, fails(api.ErrArg, 0))
	}
	runs(t, "as it must be", m, 0, make([]uint64, 3), 10, ok(10))
}

// P18.2
func TestKept(t *testing.T) {
	m, s, _ := machine(t, with(fn{in: []int{i32}, out: []int{i32}, locals: []int{i32}, body: code{opA(0x20, 1), c32(0), op(0x28), add32, c32(5), opA(0x21, 1), c32(0), c32(4), op(0x36)}}))
	args := []uint64{1<<40 + 1}
	one := m.Run(0, args, 100)
	two := m.Run(0, args, 100)
	if one.Results[0] != 0 || two.Results[0] != 4 || args[0] != 1<<40+1 {
		t.Error(one, two, args)
	}
	s.Memory().Store(0, 4, 50) // the machine works on the store itself
	one.Results[0] = 99
	if three := m.Run(0, args, 100); three.Results[0] != 50 || two.Results[0] != 4 {
		t.Error(three, two)
	}
}
