package flat_test

import (
	"bytes"
	"reflect"
	"slices"
	"testing"

	"plait/api"
	"plait/cells"
	"plait/exec"
	"plait/flat"
	"plait/host"
	"plait/instr"
	"plait/interp"
	"plait/memlow"
	"plait/permute"
	"plait/split"
	"plait/store"
	"plait/swar"
	"plait/target"
	"plait/trial"
	"plait/valid"
)

type code = []api.Instr

func op(n int) api.Instr         { return api.Instr{Op: n} }
func opA(n, a int) api.Instr     { return api.Instr{Op: n, A: a} }
func opAB(n, a, b int) api.Instr { return api.Instr{Op: n, A: a, B: b} }
func c32(x uint32) api.Instr     { return api.Instr{Op: 0x41, Lo: uint64(x)} }
func c64(x uint64) api.Instr     { return api.Instr{Op: 0x42, Lo: x} }
func cv(lo, hi uint64) api.Instr { return api.Instr{Op: 0xfd0c, Lo: lo, Hi: hi} }
func table(a int, l ...int) api.Instr {
	return api.Instr{Op: 0x0e, A: a, L: l}
}

const (
	i32, i64, v128 = api.I32, api.I64, api.V128
	empty          = api.Empty
)

var end, els, idle, dead, ret, drop1, sel, add32, sub32 = op(0x0b), op(5), op(1), op(0), op(0x0f), op(0x1a), op(0x1b), op(0x6a), op(0x6b)

// one is a module of one function, with a memory, a table, globals, an import,
// and types of its own from the number 1 on.
func one(in, out, locals []int, body ...api.Instr) api.Module {
	return api.Module{
		Start: -1,
		Types: []api.Sig{
			{In: in, Out: out}, {In: []int{i32, v128}, Out: []int{v128, i32}}, {In: []int{v128}, Out: []int{i64}}, {In: []int{i64, i64}, Out: []int{i64}}, {In: []int{v128}, Out: []int{i64}}, {In: []int{v128, i32}, Out: []int{v128}}, {In: []int{i32}},
		},
		Imports: []api.Import{{Module: "env", Name: "f", Type: 1}, {Module: "host", Name: "exit", Type: 6}},
		Funcs:   []int{0},
		Tables:  []api.Limits{{Min: 4, Max: -1}},
		Mems:    []api.Limits{{Min: 1, Max: 2}},
		Globals: []api.Global{{Type: v128, Mut: true, Init: code{cv(1, 2), end}}, {Type: i32, Mut: true, Init: code{c32(3), end}}, {Type: v128, Mut: true, Init: code{cv(4, 5), end}}, {Type: i64, Mut: true, Init: code{c64(6), end}}},
		Elems:   []api.Elem{{Offset: code{c32(0), end}, Funcs: []int{2, 0}}},
		Codes:   []api.Code{{Locals: locals, Body: append(slices.Clone(body), end)}},
	}
}

// bodies are modules of one function that lean on all ways of control.
func bodies() []api.Module {
	v, vi := []int{v128}, []int{v128, i32}
	none := []int(nil)
	return []api.Module{
		one(v, v, none, opA(0x20, 0), opA(0x20, 0), op(0xfdce)),
		one(none, none, none, dead, idle), one(none, none, none), one(none, []int{i32, i64, v128}, none, c32(1), c64(2), cv(3, 4)),
		one(vi, []int{i32, v128}, []int{i64, v128, v128, i32}, opA(0x20, 1), opA(0x22, 5), opA(0x20, 0), opA(0x22, 3), opA(0x21, 4), opA(0x20, 4)),
		one(none, []int{v128, i32, v128, i64}, none, cv(9, 8), opA(0x24, 2), c32(7), opA(0x24, 1), c64(5), opA(0x24, 3), opA(0x23, 0), opA(0x23, 1), opA(0x23, 2), opA(0x23, 3)),
		one([]int{i32}, []int{v128, i32}, none, cv(1, 2), cv(3, 4), opA(0x20, 0), sel, c32(5), c32(6), opA(0x20, 0), sel, cv(1, 1), drop1, c32(0), drop1),
		one(none, v, none, opA(2, -5), c32(1), cv(1, 2), cv(3, 4), opA(0x0c, 0), end), one(none, v, none, c64(1), opA(2, -5), c32(1), cv(3, 4), opA(0x0c, 1), end, drop1, drop1, cv(0, 0)), one(none, v, none, cv(1, 1), cv(5, 6), ret, dead), one(none, v, none, opA(2, empty), opA(2, empty), opA(0x0c, 1), end, dead, end, cv(7, 7)),
		one([]int{i32}, v, none, opA(2, -5), c64(3), cv(1, 2), opA(0x20, 0), opA(0x0d, 0), drop1, drop1, cv(5, 6), end), one([]int{i32}, v, none, opA(2, -5), cv(1, 2), opA(0x20, 0), opA(0x0d, 0), drop1, cv(5, 6), end), one([]int{i32}, v, none, cv(8, 8), opA(0x20, 0), opA(0x0d, 0), drop1, cv(9, 9)), one([]int{i32}, v, none, c32(3), cv(8, 8), opA(0x20, 0), opA(0x0d, 0), drop1, drop1, cv(9, 9)),
		one([]int{i32}, []int{i32}, none, opA(0x20, 0), opA(4, -1), c32(1), els, c32(2), end), one([]int{i32}, none, none, opA(0x20, 0), opA(4, empty), idle, end), one([]int{i32}, []int{i32}, none, opA(0x20, 0), opA(4, -1), dead, els, c32(2), end), one([]int{i32}, []int{i32}, none, opA(0x20, 0), opA(4, -1), c32(2), els, c32(9), ret, end), one([]int{i32}, []int{i32}, none, opA(0x20, 0), opA(4, -1), c32(2), ret, els, dead, end),
		one(vi, v, none, opA(0x20, 0), opA(0x20, 1), opA(0x20, 1), opA(4, 5), opA(0xfd17, 3), els, drop1, end), one([]int{i32}, none, none, opA(0x20, 0), opA(4, empty), dead, end, idle), one([]int{i32}, none, none, opA(0x20, 0), opA(4, empty), ret, els, end),
		one([]int{i32}, v, []int{v128}, opA(3, empty), opA(0x20, 1), cv(1, 2), op(0xfdce), opA(0x21, 1), opA(0x20, 0), c32(1), sub32, opA(0x22, 0), opA(0x0d, 0), end, opA(0x20, 1)),
		one([]int{i32}, v, none, cv(5, 5), opA(0x20, 0), opA(3, 5), opA(0x22, 0), drop1, cv(1, 1), op(0xfdce), opA(0x20, 0), c32(1), sub32, opA(0x22, 0), opA(0x20, 0), opA(0x0d, 0), drop1, end),
		one([]int{i32}, v, none, cv(5, 5), opA(0x20, 0), opA(3, 5), c64(1), drop1, c64(2), cv(3, 3), c32(0), opA(0x0c, 0), end), one(none, none, none, opA(3, empty), opA(0x0c, 0), end), one(none, none, none, opA(3, empty), end),
		one([]int{i32}, []int{i32}, none, opA(2, empty), opA(2, empty), opA(2, empty), opA(0x20, 0), table(0, 1, 2, 1, 0), end, c32(10), ret, end, c32(11), ret, end, c32(12)),
		one([]int{i32}, v, none, opA(2, -5), c32(7), opA(2, -5), c64(1), cv(1, 2), opA(0x20, 0), table(2, 0, 1, 2, 1, 0), end, drop1, drop1, cv(3, 4), end), one([]int{i32}, none, none, opA(3, empty), c32(4), opA(0x20, 0), c32(1), sub32, opA(0x22, 0), table(1, 0, 0, 1), end),
		one(none, none, none, opA(2, empty), dead, opA(2, empty), c32(0), opA(4, empty), els, idle, end, opA(3, empty), end, end, drop1, end, idle), one(none, []int{i32}, none, opA(2, -1), c32(1), opA(0x0c, 0), drop1, end), one(none, none, none, dead, opA(2, empty), end, opA(3, empty), opA(0x0c, 0), end),
		one([]int{i32}, []int{v128, i32}, none, opA(0x20, 0), cv(1, 2), opA(0x10, 0)), one([]int{i32}, none, none, opA(0x20, 0), opA(0x10, 1), dead),
		one([]int{i32}, v, none, opA(0x20, 0), opA(4, -5), opA(0x20, 0), c32(1), sub32, opA(0x10, 2), els, cv(1, 2), end), one(none, none, none, opA(0x10, 2)),
		one(v, []int{i64}, none, opA(0x20, 0), c32(0), opAB(0x11, 4, 0)), one(v, []int{i64}, none, c64(1), c64(2), c32(0), opAB(0x11, 3, 0)), one(v, []int{i64}, none, opA(0x20, 0), c32(2), opAB(0x11, 2, 0)), one(none, []int{v128, i32}, none, c32(5), cv(1, 2), c32(1), opAB(0x11, 1, 0)),
		one([]int{i32}, v, none, opA(0x20, 0), cv(1, 2), opAB(0xfd0b, 0, 3), opA(0x20, 0), op(0xfd00)), one([]int{i32}, none, none, c32(65521), cv(1<<64-1, 1<<64-1), op(0xfd0b)), one(none, []int{i32, i32}, none, c32(1), op(0x40), op(0x3f)), one([]int{i32}, []int{i64}, none, opA(0x20, 0), c64(77), opAB(0x37, 0, 1<<32-1), c64(1)),
		one([]int{i32, i32}, []int{i32}, none, opA(0x20, 0), opA(0x20, 1), op(0x6d)), one([]int{i32}, []int{i32}, none, opA(0x20, 0), op(0xfd0f), op(0xfd64)),
	}
}

// checked compiles a module, and looks whether its program is as it must be.
func checked(t *testing.T, what any, m api.Module) api.Prog {
	t.Helper()
	p, e := flat.Module(m)
	if e != 0 {
		t.Fatalf("%v: %d", what, e)
	}
	if target.Check(p) != 0 {
		t.Fatalf("%v: target.Check", what)
	}
	return p
}

// P25.1: types, imports, functions, their shapes.
func TestShapes(t *testing.T) {
	m := one([]int{i32, v128}, []int{v128, i32}, []int{v128, i64}, opA(0x20, 1), opA(0x20, 0))
	p := checked(t, "shapes", m)
	for k, s := range m.Types {
		if w := split.Sig(s); !slices.Equal(p.Sigs[k].In, w.In) || !slices.Equal(p.Sigs[k].Out, w.Out) {
			t.Error(k, p.Sigs[k])
		}
	}
	if len(p.Sigs) != len(m.Types) || len(p.Funcs) != 3 {
		t.Fatal(len(p.Sigs), len(p.Funcs))
	}
	want := []api.Fn{{Host: 0, Sig: 0, In: 3, Out: 3}, {Host: 1, Sig: 6, In: 1}, {Host: -1, Sig: 0, In: 3, Out: 3, Locals: 3}}
	for f, w := range want {
		fn := p.Funcs[f]
		if fn.Host != w.Host || fn.Sig != w.Sig || fn.In != w.In || fn.Out != w.Out || fn.Locals < w.Locals || fn.Locals > w.Locals+api.MaxScratch {
			t.Errorf("%d: %+v", f, fn)
		}
		if f < 2 && (len(fn.Cells) > 0 || len(fn.Marks) > 0 || fn.Locals != 0) {
			t.Errorf("%d: an import with cells, locals or marks", f)
		}
	}
	wide := slices.Repeat([]int{v128}, 32)
	m = one(wide, wide[:1], wide[:2], opA(0x20, 31), opA(0x20, 33), op(0xfd6e))
	if fn := checked(t, "wide", m).Funcs[2]; fn.In != 64 || fn.Out != 2 || fn.Locals < 4 || fn.Locals > 4+api.MaxScratch {
		t.Error(fn.In, fn.Out, fn.Locals)
	}
	m = one([]int{v128}, []int{i64}, nil, c64(1))
	m.Types = append(m.Types, m.Types[0])
	m.Funcs[0] = 7
	if p := checked(t, "canonical", m); p.Funcs[2].Sig != 0 {
		t.Error(p.Funcs[2].Sig)
	}
}

// P25.1: the document's examples.
func TestExamples(t *testing.T) {
	fn := checked(t, "add", one([]int{v128}, []int{v128}, nil, opA(0x20, 0), opA(0x20, 0), op(0xfdce))).Funcs[2]
	tick, get := api.Cell{Op: 0x101}, func(l int) api.Cell { return api.Cell{Op: 0x20, A: l} }
	if !slices.Equal(fn.Cells[:7], []api.Cell{tick, get(0), get(1), tick, get(0), get(1), tick}) || fn.Cells[len(fn.Cells)-1].Op != 0x0f || !slices.Equal(fn.Marks[:3], []int{0, 3, 6}) || fn.In != 2 || fn.Out != 2 {
		t.Error(fn)
	}
	p := checked(t, "add", one([]int{v128}, []int{v128}, nil, opA(0x20, 0), opA(0x20, 0), op(0xfdce)))
	hs, _ := target.Heights(p, 2)
	for i, h := range []int{0, 2, 4, 2} {
		if hs[fn.Marks[i]] != h {
			t.Error(i, hs)
		}
	}
	fn = checked(t, "dead", one(nil, nil, nil, dead, idle)).Funcs[2]
	if !slices.Equal(fn.Cells[:2], []api.Cell{tick, {Op: 0}}) || !slices.Equal(fn.Marks, []int{0, -1, -1}) {
		t.Error(fn)
	}
}

// image looks at the image of a module by P25.2 to P25.4.
func image(t *testing.T, what any, m api.Module) {
	t.Helper()
	p := checked(t, what, m)
	for k, c := range m.Codes {
		f := len(m.Imports) + k
		fn := p.Funcs[f]
		stack, _ := valid.Marks(m, k)
		heights, ok := target.Heights(p, f)
		if !ok || len(fn.Marks) != len(c.Body) {
			t.Fatalf("%v, %d: no heights, or %d marks", what, f, len(fn.Marks))
		}
		base := split.Width(slices.Concat(m.Types[m.Funcs[k]].In, c.Locals)...)
		if scratch := fn.In + fn.Locals - base; scratch < 0 || scratch > api.MaxScratch {
			t.Errorf("%v, %d: %d scratch locals", what, f, scratch)
		}
		ticks, last := 0, -1
		for i, in := range c.Body {
			mark := fn.Marks[i]
			if !stack[i].Live {
				if mark != -1 {
					t.Fatalf("%v, %d, %d: a mark of what isn't live", what, f, i)
				}
				continue
			}
			costs := in.Op != 5 && in.Op != 0x0b
			before := 0
			for _, cell := range fn.Cells[:mark] {
				if cell.Op == target.Tick {
					before++
				}
			}
			if mark < last || before != ticks || costs != (fn.Cells[mark].Op == target.Tick && !sharedMark(fn.Marks, i)) {
				t.Fatalf("%v, %d, %d: mark %d, %d ticks ahead of it, want %d", what, f, i, mark, before, ticks)
			}
			if costs {
				ticks++
			}
			last = mark
			if h := heights[mark]; h != -1 && h != stack[i].Height+stack[i].Vecs {
				t.Fatalf("%v, %d, %d: height %d, want %v", what, f, i, h, stack[i])
			}
			if in.Op >= 0xfd00 {
				row := sequenceOf(t, in, base)
				next := fn.Marks[i+1]
				if !slices.Equal(fn.Cells[mark+1:mark+1+len(row)], row) || next != mark+1+len(row) {
					t.Fatalf("%v, %d, %d: not the sequence", what, f, i)
				}
			}
		}
		for _, cell := range fn.Cells[last:] {
			if cell.Op == target.Tick && !stackCosts(c.Body, stack) {
				t.Fatalf("%v, %d: a tick too many", what, f)
			}
		}
		if n := count(fn.Cells); n != ticks {
			t.Fatalf("%v, %d: %d ticks, want %d", what, f, n, ticks)
		}
	}
}

// sharedMark tells whether the mark i is a later one's too.
func sharedMark(marks []int, i int) bool { return slices.Contains(marks[i+1:], marks[i]) }

// stackCosts tells whether the last live instruction costs.
func stackCosts(body code, stack []api.Mark) bool {
	for i := len(body) - 1; i >= 0; i-- {
		if stack[i].Live {
			return body[i].Op != 5 && body[i].Op != 0x0b
		}
	}
	return false
}

func count(row []api.Cell) int {
	n := 0
	for _, c := range row {
		if c.Op == cells.Tick {
			n++
		}
	}
	return n
}

func sequenceOf(t *testing.T, in api.Instr, base int) []api.Cell {
	t.Helper()
	for _, seq := range []func(api.Instr, int) ([]api.Cell, int, api.Errno){swar.Seq, permute.Seq, memlow.Seq} {
		if row, _, e := seq(in, base); e == 0 {
			return row
		}
	}
	t.Fatalf("%x has no sequence", in.Op)
	return nil
}

// P25.2, P25.3, P25.4
func TestImages(t *testing.T) {
	for i, m := range bodies() {
		image(t, i, m)
	}
	for n := range 0x10000 {
		if info, ok := instr.Of(n); ok && info.Plain && n >= 0xfd00 {
			var body code
			for _, typ := range info.In {
				body = append(body, map[int]api.Instr{i32: c32(1), i64: c64(2), v128: cv(3, 4)}[typ])
			}
			image(t, n, one([]int{v128}, info.Out, []int{i32}, append(body, op(n))...))
		}
	}
	for seed := range uint64(150) {
		image(t, seed, trial.Module(seed))
	}
}

// both runs a function by both engines over like stores and hosts, and compares
// all that can be told; it answers the outcome.
func both(t *testing.T, what any, m api.Module, p api.Prog, f int, args []uint64, fuel int) api.Outcome {
	t.Helper()
	s1, e := store.New(m)
	if e != 0 {
		t.Fatalf("%v: store.New: %d", what, e)
	}
	h1 := host.New(args...)
	h1.Reply(1<<40+5, 6, 7, 8, 9)
	s2, h2 := s1.Clone(), h1.Clone()
	one, two := interp.New(s1, h1), exec.New(p, s2, h2)
	var last api.Outcome
	for range 2 { // what the first run has done stays for the second
		a, b := one.Run(f, args, fuel), two.Run(f, args, fuel)
		if a.Err != b.Err || a.Code != b.Code || a.Left != b.Left || !slices.Equal(a.Results, b.Results) {
			t.Fatalf("%v, %d of %x, fuel %d: %+v by the bodies, %+v by the cells", what, f, args, fuel, a, b)
		}
		last = a
	}
	for k := 0; ; k++ {
		x, ok := s1.Slot(k)
		y, _ := s2.Slot(k)
		if x != y {
			t.Fatalf("%v, %d of %x, fuel %d: slot %d", what, f, args, fuel, k)
		}
		if !ok {
			break
		}
	}
	if !reflect.DeepEqual(h1.Log(), h2.Log()) || h1.Waiting() != h2.Waiting() || h1.Code() != h2.Code() {
		t.Fatalf("%v, %d of %x, fuel %d: hosts", what, f, args, fuel)
	}
	if !sameMemory(s1, s2) {
		t.Fatalf("%v, %d of %x, fuel %d: memories", what, f, args, fuel)
	}
	return last
}

func sameMemory(a, b *store.Store) bool {
	if a.Memory().Pages() != b.Memory().Pages() {
		return false
	}
	for at := 0; at < a.Memory().Pages()*api.PageBytes; at += api.MaxPeek {
		x, _ := a.Memory().Peek(at, api.MaxPeek)
		y, _ := b.Memory().Peek(at, api.MaxPeek)
		if !bytes.Equal(x, y) {
			return false
		}
	}
	return true
}

// P25.1: what the code does, at every amount of fuel.
func TestRuns(t *testing.T) {
	for i, m := range bodies() {
		p := checked(t, i, m)
		for seed := range uint64(6) {
			args := trial.Arguments(seed, m.Types[0].In)
			for k := range args { // small numbers go more ways
				if seed < 5 {
					args[k] = seed
				}
			}
			for fuel := range 30 {
				both(t, i, m, p, 2, args, fuel)
			}
			for _, fuel := range []int{-1, 100, 1000, 100000, 200000} {
				both(t, i, m, p, 2, args, fuel)
			}
		}
	}
}

// P25.1: modules without a shape.
func TestSeeds(t *testing.T) {
	ends := map[api.Errno]int{}
	for seed := range uint64(400) {
		m := trial.Module(seed)
		p := checked(t, seed, m)
		for f := range 4 {
			args := trial.Arguments(seed+uint64(f), m.Types[m.Funcs[f]].In)
			for _, fuel := range []int{int(seed % 40), 60, 3000} {
				ends[both(t, seed, m, p, 2+f, args, fuel).Err]++
			}
		}
		both(t, seed, m, p, 0, trial.Arguments(seed, m.Types[4].In), 0)
	}
	for _, e := range []api.Errno{0, api.TrapUnreachable, api.TrapBounds, api.TrapElem, api.TrapSig, api.ErrFuel, api.ErrExit} {
		if ends[e] == 0 {
			t.Error("no run ended with", e, ends)
		}
	}
	if ends[api.ErrBad] > 0 || ends[api.ErrHops] > 0 {
		t.Error(ends)
	}
}

// P25.1: the deepest stack, and the most jumps back, that a module can have.
func TestEnds(t *testing.T) {
	wide := slices.Repeat([]int{v128}, 32)
	m := api.Module{Start: -1, Types: []api.Sig{{}, {Out: wide}}, Imports: []api.Import{{Type: 1}}, Funcs: []int{0}}
	m.Codes = []api.Code{{Body: append(slices.Repeat(code{opA(0x10, 0)}, 1000), opA(0x0c, 0), end)}}
	p := checked(t, "stack", m)
	if out := both(t, "stack", m, p, 1, nil, 100000); out.Err != 0 && out.Err != api.ErrLog {
		t.Error(out)
	}
	m.Types = append(m.Types, api.Sig{})
	m.Funcs, m.Codes = []int{0, 1}, []api.Code{{Body: append(slices.Repeat(code{opA(0x10, 2)}, 7000), opA(0x0c, 0), end)}, {Locals: []int{v128}, Body: append(slices.Repeat(code{opA(0x20, 0)}, 32), end)}}
	p = checked(t, "calls", m)
	if out := both(t, "calls", m, p, 1, nil, 100000); out.Err != api.ErrFuel {
		t.Error(out)
	}
	m.Codes[0].Body = append(slices.Repeat(code{opA(0x10, 2)}, 2900), opA(0x0c, 0), end)
	p = checked(t, "calls", m)
	if out := both(t, "calls", m, p, 1, nil, 100000); out.Err != 0 {
		t.Error(out)
	}
	loop := one(nil, nil, nil, opA(3, empty), opA(0x0c, 0), end)
	if out := both(t, "loop", loop, checked(t, "loop", loop), 2, nil, 100000); out.Err != api.ErrFuel {
		t.Error(out)
	}
}

// P25.1: valid.Check's errors.
func TestErrors(t *testing.T) {
	m := one(nil, nil, nil, c32(1))
	for _, want := range []api.Errno{api.ErrValid, api.ErrLong, api.ErrArg} {
		if p, e := flat.Module(m); e != want || !reflect.DeepEqual(p, api.Prog{}) {
			t.Error(e, want)
		}
		if want == api.ErrLong {
			m.Start = -2
		}
		m.Datas = []api.Data{{Offset: code{c32(0), end}, Bytes: make([]byte, 20000)}}
	}
	if p, e := flat.Module(api.Module{Start: -1}); e != 0 || len(p.Funcs) != 0 || len(p.Sigs) != 0 {
		t.Error(p, e)
	}
}

// P25.5
func TestMemory(t *testing.T) {
	for seed := range uint64(30) {
		m := trial.Module(seed)
		a, _ := flat.Module(m)
		b, _ := flat.Module(m)
		if !reflect.DeepEqual(a, b) || !reflect.DeepEqual(m, trial.Module(seed)) {
			t.Error("another image, or another module", seed)
		}
		for f := range a.Funcs {
			for i := range a.Funcs[f].Cells {
				a.Funcs[f].Cells[i].Op = -1
			}
			for i := range a.Funcs[f].Marks {
				a.Funcs[f].Marks[i] = -7
			}
		}
		for k := range a.Sigs {
			for i := range a.Sigs[k].In {
				a.Sigs[k].In[i] = 5
			}
		}
		if c, _ := flat.Module(m); !reflect.DeepEqual(b, c) || !reflect.DeepEqual(m, trial.Module(seed)) {
			t.Error("memory is shared", seed)
		}
	}
}
