package target_test

import (
	"math"
	"reflect"
	"slices"
	"testing"

	"plait/api"
	"plait/num"
	"plait/target"
)

const i32, i64 = api.I32, api.I64

func cell(op int) api.Cell            { return api.Cell{Op: op} }
func cellA(op, a int) api.Cell        { return api.Cell{Op: op, A: a} }
func cellN(op int, n uint64) api.Cell { return api.Cell{Op: op, N: n} }
func slide(n int, k uint64) api.Cell  { return api.Cell{Op: target.Slide, A: n, N: k} }
func konst(n uint64) api.Cell         { return api.Cell{Op: 0x42, N: n} }
func types(n int) []int               { return slices.Repeat([]int{i64}, n) }
func sig(in, out int) api.Sig         { return api.Sig{In: types(in), Out: types(out)} }
func fn(s, in, out int, cs ...api.Cell) api.Fn {
	return api.Fn{Host: -1, Sig: s, In: in, Out: out, Locals: 2, Cells: cs}
}

var ret, drop = cell(0x0f), cell(0x1a)

// prog is a program of one function of none to one, with these cells, and of
// two others.
func prog(cs ...api.Cell) api.Prog {
	return api.Prog{
		Sigs:  []api.Sig{sig(0, 1), sig(3, 2), {In: []int{i32}}},
		Funcs: []api.Fn{fn(0, 0, 1, cs...), {Host: 0, Sig: 1, In: 3, Out: 2}, fn(2, 1, 0, ret)},
	}
}

var flat = []int{0x00, 0x0c, 0x0d, 0x0e, 0x0f, 0x10, 0x11, 0x1a, 0x1b, 0x20, 0x21, 0x22, 0x23, 0x24, 0x28, 0x29, 0x2c, 0x2d, 0x2e, 0x2f, 0x30, 0x31, 0x32, 0x33, 0x34, 0x35,
	0x36, 0x37, 0x3a, 0x3b, 0x3c, 0x3d, 0x3e, 0x3f, 0x40, 0x42, 0x100, 0x101}

// P19.1
func TestScalar(t *testing.T) {
	if target.Slide != 0x100 || target.Tick != 0x101 {
		t.Error(target.Slide, target.Tick)
	}
	for op := -300; op < 0x10100; op++ {
		if want := slices.Contains(flat, op) || num.Arity(op) > 0; target.Scalar(op) != want {
			t.Errorf("%x", op)
		}
	}
	for _, op := range []int{0x41, 0x02, 0xfd00, 0x2a, math.MinInt, math.MaxInt} {
		if target.Scalar(op) {
			t.Errorf("%x", op)
		}
	}
}

func check(t *testing.T, what any, p api.Prog, want api.Errno) {
	t.Helper()
	if e := target.Check(p); e != want {
		t.Errorf("%v: %d, want %d", what, e, want)
	}
}

// P19.2: cells, at their edges.
func TestCells(t *testing.T) {
	good := [][]api.Cell{
		{ret}, {cell(0)}, {cellA(0x0c, 0)}, {cellA(0x0c, 1), ret}, {cellA(0x0d, 1), ret}, {cellA(0x0e, 0), ret}, {cellA(0x0e, 1), ret, ret}, {cellA(0x10, 0)}, {cellA(0x10, 2)}, {cellA(0x11, 2)},
		{cellA(0x20, 1)}, {cellA(0x21, 0)}, {cellA(0x22, 1)}, {cellA(0x23, 0)}, {cellA(0x24, math.MaxInt)}, {slide(0, 0)}, {slide(1<<20, 1<<20)}, {{Op: 0x42, A: -7, N: 1 << 63}}, {{Op: 0x6a, A: -1, N: 5}}, {{Op: 0x29, A: 9, N: math.MaxUint64}}, {{Op: target.Tick, A: -1}}, {{Op: 0x0f, A: 99}},
	}
	bad := [][]api.Cell{
		{}, {cellA(0x0c, 1)}, {cellA(0x0c, -1)}, {cellA(0x0d, 1)}, {cellA(0x0d, math.MinInt)}, {cellA(0x0e, 0)}, {cellA(0x0e, 1), ret}, {cellA(0x0e, -1), ret}, {ret, cellA(0x0e, 1), ret}, {cellA(0x0e, math.MaxInt), ret},
		{cellA(0x10, 3)}, {cellA(0x10, -1)}, {cellA(0x11, 3)}, {cellA(0x11, -1)}, {cellA(0x20, 2)}, {cellA(0x21, -1)}, {cellA(0x22, 2)}, {cellA(0x23, -1)}, {cellA(0x24, math.MinInt)},
		{slide(-1, 0)}, {slide(1<<20+1, 0)}, {slide(0, 1<<20+1)}, {slide(0, math.MaxUint64)}, {cell(0x41)}, {cell(0x02)}, {cell(0x0b)}, {cell(0xfd6e)}, {cell(0x2a)}, {cell(-1)}, {cell(0x102)}, {ret, cell(0x05), ret},
	}
	for i, cs := range slices.Concat(good, bad) {
		want := api.ErrArg
		if i < len(good) {
			want = 0
		}
		check(t, cs, prog(cs...), want)
	}
	check(t, "example", prog(cellA(0x0c, 9), ret), api.ErrArg)
}

// P19.2: types and functions, at their edges.
func TestFunctions(t *testing.T) {
	good := map[string]func(*api.Prog){
		"as it is": func(*api.Prog) {}, "many locals": func(p *api.Prog) { p.Funcs[0].Locals = 4096 }, "no locals": func(p *api.Prog) { p.Funcs[0].Locals = 0 }, "a great host": func(p *api.Prog) { p.Funcs[1].Host = math.MaxInt }, "marks": func(p *api.Prog) { p.Funcs[0].Marks = []int{-5, 99} },
		"nothing": func(p *api.Prog) { *p = api.Prog{} }, "an import's locals": func(p *api.Prog) { p.Funcs[1].Locals = 5 },
	}
	bad := map[string]func(*api.Prog){
		"a vector in": func(p *api.Prog) { p.Sigs[1].In[0] = api.V128 }, "a vector out": func(p *api.Prog) { p.Sigs[1].Out[1] = api.V128 }, "a float": func(p *api.Prog) { p.Sigs[2].In[0] = 0x7d }, "host -2": func(p *api.Prog) { p.Funcs[1].Host = -2 }, "host -1 without cells": func(p *api.Prog) { p.Funcs[1].Host = -1 }, "host with cells": func(p *api.Prog) { p.Funcs[1].Cells = []api.Cell{ret} },
		"no type": func(p *api.Prog) { p.Funcs[2].Sig = 3 }, "type -1": func(p *api.Prog) { p.Funcs[2].Sig = -1 }, "another type": func(p *api.Prog) { p.Funcs[2].Sig = 1 }, "in": func(p *api.Prog) { p.Funcs[1].In = 2 }, "out": func(p *api.Prog) { p.Funcs[1].Out = 3 }, "locals below": func(p *api.Prog) { p.Funcs[0].Locals = -1 }, "locals above": func(p *api.Prog) { p.Funcs[0].Locals = 4097 }, "no types": func(p *api.Prog) { p.Sigs = nil },
	}
	for what, change := range good {
		p := prog(ret)
		change(&p)
		check(t, what, p, 0)
	}
	for what, change := range bad {
		p := prog(ret)
		change(&p)
		check(t, what, p, api.ErrArg)
		if takes, gives := target.Effect(p, 0, konst(1)); takes != 0 || gives != 0 {
			t.Error(what, takes, gives)
		}
		if hs, ok := target.Heights(p, 0); hs != nil || ok {
			t.Error(what, hs, ok)
		}
	}
}

// P19.3
func TestEffect(t *testing.T) {
	want := map[int][2]int{0: {0, 0}, 0x0c: {0, 0}, 0x0d: {1, 0}, 0x0e: {1, 0}, 0x1a: {1, 0}, 0x1b: {3, 1}, 0x20: {0, 1}, 0x21: {1, 0}, 0x22: {1, 1}, 0x23: {0, 1}, 0x24: {1, 0}, 0x3f: {0, 1}, 0x40: {1, 1}, 0x42: {0, 1}, 0x101: {0, 0}}
	for _, op := range flat {
		if op >= 0x28 && op <= 0x35 {
			want[op] = [2]int{1, 1}
		} else if op >= 0x36 && op <= 0x3e {
			want[op] = [2]int{2, 0}
		}
	}
	p := prog(konst(1), ret)
	for op := -20; op < 0x10000; op++ {
		if op == 0x0f || op == 0x10 || op == 0x11 || op == target.Slide {
			continue
		}
		w := want[op]
		if n := num.Arity(op); n > 0 {
			w = [2]int{n, 1}
		}
		for _, a := range []int{0, -1, 99} {
			if takes, gives := target.Effect(p, 0, cellA(op, a)); takes != w[0] || gives != w[1] {
				t.Errorf("%x: %d %d, want %v", op, takes, gives, w)
			}
		}
	}
	rows := []struct {
		f    int
		c    api.Cell
		want [2]int
	}{
		{0, ret, [2]int{1, 0}}, {1, ret, [2]int{2, 0}}, {2, ret, [2]int{0, 0}}, {0, cellA(0x10, 1), [2]int{3, 2}}, {2, cellA(0x10, 0), [2]int{0, 1}}, {0, cellA(0x10, 3), [2]int{}}, {0, cellA(0x10, -1), [2]int{}}, {0, cellA(0x11, 1), [2]int{4, 2}}, {0, cellA(0x11, 2), [2]int{2, 0}}, {0, cellA(0x11, 3), [2]int{}}, {0, cellA(0x11, -1), [2]int{}},
		{0, slide(2, 3), [2]int{5, 2}}, {0, slide(0, 0), [2]int{}}, {0, slide(1<<20, 1<<20), [2]int{1 << 21, 1 << 20}}, {3, konst(1), [2]int{}}, {-1, konst(1), [2]int{}}, {math.MaxInt, konst(1), [2]int{}}, {math.MinInt, konst(1), [2]int{}}, {0, cell(0xfd6e), [2]int{}},
	}
	for _, r := range rows {
		if takes, gives := target.Effect(p, r.f, r.c); takes != r.want[0] || gives != r.want[1] {
			t.Errorf("%d %v: %d %d, want %v", r.f, r.c, takes, gives, r.want)
		}
	}
}

// P19.4
func TestHeights(t *testing.T) {
	five := konst(5)
	rows := []struct {
		cells []api.Cell
		want  []int
	}{
		{[]api.Cell{five, ret}, []int{0, 1}}, {[]api.Cell{five, cellA(0x0d, 0), konst(1), ret}, []int{0, 1, 0, 1}}, {[]api.Cell{five, cellA(0x0c, 0)}, nil}, {[]api.Cell{drop, ret}, nil}, {[]api.Cell{five}, nil}, {[]api.Cell{cellA(0x0c, 2), drop, five, ret}, []int{0, -1, 0, 1}},
		{[]api.Cell{five, cellA(0x0e, 1), cellA(0x0c, 4), cellA(0x0c, 5), cellA(0x0c, 5), five, ret}, []int{0, 1, 0, 0, 0, 0, 1}}, {[]api.Cell{five, cellA(0x0e, 0), cell(0), five, ret}, []int{0, 1, 0, -1, -1}}, {[]api.Cell{five, cellA(0x0e, 1), cell(0), five, ret}, []int{0, 1, 0, 0, 1}}, {[]api.Cell{five, cellA(0x0e, 1), five, ret}, nil},
		{[]api.Cell{five, cellA(0x0d, 5), five, cellA(0x0c, 7), five, five, cellA(0x0e, 0), cell(0)}, nil}, {[]api.Cell{five, cellA(0x0d, 5), five, cellA(0x0c, 8), five, five, five, cellA(0x0e, 0), cell(0)}, []int{0, 1, 0, 1, -1, 0, 1, 2, 1}},
		{[]api.Cell{cell(0)}, []int{0}}, {[]api.Cell{cell(0), drop, drop}, []int{0, -1, -1}}, {[]api.Cell{ret}, nil}, {[]api.Cell{five, five, ret}, []int{0, 1, 2}}, {[]api.Cell{cellA(0x0c, 0)}, []int{0}}, {[]api.Cell{five, cellA(0x0d, 0)}, nil}, {[]api.Cell{five, five, cellA(0x0d, 0), cell(0)}, nil}, {[]api.Cell{five, five, cellA(0x0d, 1), ret}, []int{0, 1, 2, 1}}, {[]api.Cell{five, five, five, cellA(0x0d, 2), ret}, []int{0, 1, 2, 3, 2}},
		{[]api.Cell{five, five, five, cellA(0x10, 1), ret}, []int{0, 1, 2, 3, 2}}, {[]api.Cell{five, five, cellA(0x10, 1), ret}, nil}, {[]api.Cell{five, five, five, five, cellA(0x11, 1), ret}, []int{0, 1, 2, 3, 4, 2}}, {[]api.Cell{five, five, five, cellA(0x11, 1), ret}, nil},
		{[]api.Cell{five, five, five, slide(1, 2), ret}, []int{0, 1, 2, 3, 1}}, {[]api.Cell{five, five, slide(1, 2), ret}, nil}, {[]api.Cell{five, slide(0, 1), five, ret}, []int{0, 1, 0, 1}}, {[]api.Cell{cell(target.Tick), five, cell(0x6a), ret}, nil}, {[]api.Cell{five, five, cell(0x6a), cell(0x45), ret}, []int{0, 1, 2, 1, 1}}, {[]api.Cell{five, five, cell(0x36), five, cell(0x29), cellA(0x22, 0), cellA(0x21, 1), cellA(0x20, 1), ret}, []int{0, 1, 2, 0, 1, 1, 1, 0, 1}},
		{[]api.Cell{five, cellA(0x0d, 3), cellA(0x0c, 4), five, cellA(0x0c, 2)}, nil}, {[]api.Cell{five, cellA(0x0d, 4), five, cellA(0x0c, 5), konst(1), ret}, []int{0, 1, 0, 1, 0, 1}},
	}
	for i, r := range rows {
		hs, ok := target.Heights(prog(r.cells...), 0)
		if ok != (r.want != nil) || !slices.Equal(hs, r.want) {
			t.Errorf("%d: %v, %v, want %v", i, hs, ok, r.want)
		}
	}
	p := prog(five, ret)
	for _, f := range []int{-1, 1, 3, math.MinInt, math.MaxInt} {
		if hs, ok := target.Heights(p, f); hs != nil || ok {
			t.Error(f, hs, ok)
		}
	}
	if hs, ok := target.Heights(p, 2); !slices.Equal(hs, []int{0}) || !ok {
		t.Error(hs, ok)
	}
	p.Funcs[2].Cells = []api.Cell{cellA(0x20, 5)}
	if hs, ok := target.Heights(p, 0); hs != nil || ok {
		t.Error(hs, ok)
	}
}

// P19.5
func TestMemory(t *testing.T) {
	p := prog(konst(5), ret)
	target.Check(p)
	one, _ := target.Heights(p, 0)
	two, _ := target.Heights(p, 0)
	one[1] = 9
	if two[1] != 1 || !reflect.DeepEqual(p, prog(konst(5), ret)) {
		t.Error("memory is shared")
	}
}
