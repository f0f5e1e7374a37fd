package exec_test

import (
	"bytes"
	"math"
	"reflect"
	"slices"
	"testing"

	"plait/api"
	"plait/exec"
	"plait/host"
	"plait/num"
	"plait/store"
)

const i32, i64, v128 = api.I32, api.I64, api.V128

func cell(op int) api.Cell            { return api.Cell{Op: op} }
func cellA(op, a int) api.Cell        { return api.Cell{Op: op, A: a} }
func cellN(op int, n uint64) api.Cell { return api.Cell{Op: op, N: n} }
func konst(n uint64) api.Cell         { return cellN(0x42, n) }
func slid(n int, k uint64) api.Cell   { return api.Cell{Op: 0x100, A: n, N: k} }

var ret, tick, drop = cell(0x0f), cell(0x101), cell(0x1a)

func types(n int) []int { return slices.Repeat([]int{i64}, n) }

func sig(in, out int) api.Sig { return api.Sig{In: types(in), Out: types(out)} }

// prog is a program of a function with these operands and cells, of a second
// one that adds its two arguments, and of a third one that gives its import's
// answer.
func prog(in, out int, cs ...api.Cell) api.Prog {
	return api.Prog{
		Sigs: []api.Sig{sig(in, out), sig(2, 1), sig(3, 3)},
		Funcs: []api.Fn{
			{Host: -1, In: in, Out: out, Locals: 2, Cells: cs},
			{Host: -1, Sig: 1, In: 2, Out: 1, Cells: []api.Cell{cellA(0x20, 0), cellA(0x20, 1), cell(0x7c), ret}},
			{Host: 0, Sig: 2, In: 3, Out: 3},
		},
	}
}

// source is a module with two imports, four slots, a table and a memory.
func source() api.Module {
	end := api.Instr{Op: 0x0b}
	return api.Module{
		Start:   -1,
		Types:   []api.Sig{{In: []int{i32, v128}, Out: []int{v128, i32}}, {In: []int{i64}}},
		Imports: []api.Import{{Module: "env", Name: "f"}, {Module: "host", Name: "exit", Type: 1}},
		Tables:  []api.Limits{{Min: 8, Max: -1}}, Mems: []api.Limits{{Min: 1, Max: 2}},
		Globals: []api.Global{{Type: i32, Init: []api.Instr{{Op: 0x41, Lo: 7}, end}}, {Type: v128, Init: []api.Instr{{Op: 0xfd0c, Lo: 1, Hi: 2}, end}}, {Type: i64, Init: []api.Instr{{Op: 0x42, Lo: 9}, end}}},
		Funcs:   []int{1, 1, 1, 1},
		Codes:   slices.Repeat([]api.Code{{Body: []api.Instr{end}}}, 4),
		Elems:   []api.Elem{{Offset: []api.Instr{{Op: 0x41, Lo: 1}, end}, Funcs: []int{0, 1, 2, 5}}},
	}
}

func made(t *testing.T, m api.Module) *store.Store {
	t.Helper()
	s, e := store.New(m)
	if e != 0 {
		t.Fatal(e)
	}
	return s
}

func alike(a, b api.Outcome) bool {
	return a.Err == b.Err && a.Code == b.Code && a.Left == b.Left && slices.Equal(a.Results, b.Results)
}

func runs(t *testing.T, what any, m *exec.Machine, f int, args []uint64, fuel int, want api.Outcome) {
	t.Helper()
	if got := m.Run(f, args, fuel); !alike(got, want) || got.Err != 0 && got.Results != nil {
		t.Errorf("%v: %+v, want %+v", what, got, want)
	}
}

func ok(left int, results ...uint64) api.Outcome { return api.Outcome{Results: results, Left: left} }

func fails(e api.Errno, left int) api.Outcome { return api.Outcome{Err: e, Left: left} }

// cellsRun runs cells over a fresh store with 10 fuel.
func cellsRun(t *testing.T, what any, in, out int, args []uint64, want api.Outcome, cs ...api.Cell) *store.Store {
	t.Helper()
	s := made(t, source())
	runs(t, what, exec.New(prog(in, out, cs...), s, host.New(21, 22, 23)), 0, args, 10, want)
	return s
}

// P20.1: what each cell does.
func TestCells(t *testing.T) {
	rows := []struct {
		name    string
		in, out int
		args    []uint64
		want    api.Outcome
		cells   []api.Cell
	}{
		{"constant", 0, 1, nil, ok(10, 1<<64-1), []api.Cell{konst(1<<64 - 1), ret}},
		{"results are the top", 0, 2, nil, ok(10, 2, 3), []api.Cell{konst(1), konst(2), konst(3), ret}},
		{"locals", 2, 3, []uint64{1 << 40, 5}, ok(10, 5, 1<<40, 0), []api.Cell{cellA(0x20, 1), cellA(0x20, 0), cellA(0x20, 3), ret}},
		{"set and tee", 1, 2, []uint64{4}, ok(10, 9, 8), []api.Cell{konst(9), cellA(0x22, 2), konst(8), cellA(0x21, 0), cellA(0x20, 2), cellA(0x20, 0), slid(2, 1), ret}},
		{"drop", 0, 1, nil, ok(10, 1), []api.Cell{konst(1), konst(2), drop, ret}},
		{"select first", 0, 1, nil, ok(10, 5), []api.Cell{konst(5), konst(6), konst(1 << 31), cell(0x1b), ret}},
		{"select by 32 bits", 0, 1, nil, ok(10, 6), []api.Cell{konst(5), konst(6), konst(1 << 32), cell(0x1b), ret}},
		{"slide", 0, 3, nil, ok(10, 1, 4, 5), []api.Cell{konst(1), konst(2), konst(3), konst(4), konst(5), slid(2, 2), ret}},
		{"slide all away", 0, 1, nil, ok(10, 7), []api.Cell{konst(1), konst(2), slid(0, 2), konst(7), ret}},
		{"slide nothing", 0, 2, nil, ok(10, 1, 2), []api.Cell{konst(1), konst(2), slid(2, 0), ret}},
		{"tick", 0, 0, nil, ok(7), []api.Cell{tick, tick, tick, ret}},
		{"no fuel", 0, 0, nil, fails(api.ErrFuel, 0), []api.Cell{tick, cellA(0x0c, 0)}},
		{"unreachable", 0, 0, nil, fails(api.TrapUnreachable, 9), []api.Cell{tick, cell(0), ret}},
		{"jump", 0, 1, nil, ok(10, 3), []api.Cell{cellA(0x0c, 2), cell(0), konst(3), ret}},
		{"jump if", 1, 1, []uint64{5}, ok(10, 3), []api.Cell{cellA(0x20, 0), cellA(0x0d, 3), cell(0), konst(3), ret}},
		{"jump if not", 1, 1, []uint64{1 << 32}, fails(api.TrapUnreachable, 10), []api.Cell{cellA(0x20, 0), cellA(0x0d, 3), cell(0), konst(3), ret}},
		{"call", 0, 2, nil, ok(10, 1, 5), []api.Cell{konst(1), konst(2), konst(3), cellA(0x10, 1), ret}},
		{"call of an import", 0, 4, nil, ok(10, 1, 21, 22, 23), []api.Cell{konst(1), konst(2), konst(3), konst(4), cellA(0x10, 2), ret}},
		{"slots", 0, 4, nil, ok(10, 7, 1, 2, 9), []api.Cell{cellA(0x23, 0), cellA(0x23, 1), cellA(0x23, 2), cellA(0x23, 3), ret}},
		{"set slots", 0, 2, nil, ok(10, 5, 1<<40), []api.Cell{konst(1<<40 + 5), cellA(0x24, 0), konst(1 << 40), cellA(0x24, 2), cellA(0x23, 0), cellA(0x23, 2), ret}},
		{"size and grow", 0, 4, nil, ok(10, 1, 1, 2, 1<<32-1), []api.Cell{cell(0x3f), konst(1<<32 + 1), cell(0x40), cell(0x3f), konst(1), cell(0x40), ret}},
		{"store and load", 0, 2, nil, ok(10, 0x1122334455667788, 1<<32-120), []api.Cell{konst(1<<32 + 5), konst(0x1122334455667788), cellN(0x37, 10), konst(15), cell(0x29), konst(0), cellN(0x2c, 15), ret}},
		{"load at the end", 0, 1, nil, ok(10, 0), []api.Cell{konst(65528), cell(0x29), ret}},
		{"load beyond", 0, 0, nil, fails(api.TrapBounds, 10), []api.Cell{konst(65529), cell(0x29), drop, ret}},
		{"offsets go round", 0, 1, nil, ok(10, 0), []api.Cell{konst(5), cellN(0x29, 1<<64-5), ret}},
		{"offsets below 0", 0, 1, nil, fails(api.TrapBounds, 10), []api.Cell{konst(5), cellN(0x29, 1<<64-6), ret}},
		{"places above 32 bits", 0, 1, nil, fails(api.TrapBounds, 10), []api.Cell{konst(1<<32 - 1), cellN(0x2d, 1), ret}},
		{"division", 0, 1, nil, fails(api.TrapZero, 10), []api.Cell{konst(5), konst(1 << 32), cell(0x6d), ret}},
		{"overflow", 0, 1, nil, fails(api.TrapOver, 10), []api.Cell{konst(1 << 63), konst(1<<64 - 1), cell(0x7f), ret}},
		{"add", 1, 1, []uint64{41}, ok(10, 42), []api.Cell{cellA(0x20, 0), konst(1), cell(0x6a), ret}},
	}
	for _, r := range rows {
		cellsRun(t, r.name, r.in, r.out, r.args, r.want, r.cells...)
	}
}

// P20.1: every operator, as its layer says.
func TestOperators(t *testing.T) {
	for op := range 0x100 {
		for _, x := range []uint64{0, 1, 0x80ff7f0112345678, 1 << 63, 1 << 31} {
			for _, y := range []uint64{0, 3, 1<<64 - 1, 1<<32 - 1} {
				var want api.Outcome
				var z uint64
				switch num.Arity(op) {
				case 1:
					z, want.Err = num.Un(op, y)
				case 2:
					z, want.Err = num.Bin(op, x, y)
				default:
					continue
				}
				want.Left = 10
				if want.Err == 0 {
					want.Results = []uint64{z}
				}
				cellsRun(t, op, 2, 1, []uint64{x, y}, want, cellA(0x20, 0), cellA(0x20, 1), cell(op), ret)
			}
		}
	}
}

// P20.1: 0e by every number.
func TestTable(t *testing.T) {
	cs := []api.Cell{cellA(0x20, 0), cellA(0x0e, 2), cellA(0x0c, 5), cellA(0x0c, 7), cellA(0x0c, 9), konst(10), ret, konst(11), ret, konst(12), ret}
	for x, want := range map[uint64]uint64{0: 10, 1: 11, 2: 12, 3: 12, 1<<32 - 1: 12, 1 << 32: 10, 1<<40 + 1: 11} {
		cellsRun(t, x, 1, 1, []uint64{x}, ok(10, want), cs...)
	}
	cellsRun(t, "one way", 1, 1, []uint64{5}, ok(10, 7), cellA(0x20, 0), cellA(0x0e, 0), konst(7), ret)
}

// P20.1: ErrBad ahead of what a cell does, and where no cell follows.
func TestBad(t *testing.T) {
	bad := fails(api.ErrBad, 10)
	rows := [][]api.Cell{
		{drop, ret}, {konst(1), cell(0x6a), ret}, {konst(1), konst(1), cell(0x1b), ret}, {cellA(0x21, 0), ret}, {cellA(0x22, 0), ret}, {cellA(0x0d, 0), ret}, {cellA(0x0e, 0), ret}, {slid(1, 0), ret}, {konst(1), slid(1, 1), ret}, {slid(0, 1), ret}, {slid(1<<20, 1<<20), ret},
		{konst(1), cellA(0x10, 1), ret}, {konst(1), konst(1), cellA(0x11, 1), ret}, {cellA(0x23, 4), ret}, {konst(1), cellA(0x24, 4), ret}, {konst(1), cellA(0x24, math.MaxInt), ret}, {cell(0x29), ret}, {konst(0), cell(0x36), ret}, {cell(0x40), ret}, {konst(7)}, {cellA(0x0c, 1), konst(7)}, {konst(0), cellA(0x0d, 0)}, {konst(1), konst(2), cellA(0x10, 1)},
	}
	for i, cs := range rows {
		cellsRun(t, i, 0, 0, nil, bad, cs...)
	}
	cellsRun(t, "too few results", 0, 2, nil, bad, konst(1), ret)
	cellsRun(t, "what was done stays", 0, 0, nil, fails(api.ErrBad, 9), tick)
	s := cellsRun(t, "beyond the last", 0, 0, nil, bad, konst(3), konst(8), cell(0x36))
	if x, _ := s.Memory().Load(3, 1); x != 8 {
		t.Error(x)
	}
	plain := made(t, api.Module{Start: -1})
	for op := 0x28; op <= 0x40; op++ {
		if op == 0x2a || op == 0x2b || op == 0x38 || op == 0x39 {
			continue
		}
		m := exec.New(prog(0, 0, konst(0), konst(0), cell(op), ret), plain, host.New())
		runs(t, op, m, 0, nil, 10, bad)
	}
	runs(t, "no slot", exec.New(prog(0, 0, cellA(0x23, 0), ret), plain, host.New()), 0, nil, 10, bad)
	runs(t, "no table", exec.New(prog(0, 0, konst(0), konst(0), konst(0), cellA(0x11, 1), ret), plain, host.New()), 0, nil, 10, fails(api.TrapElem, 10))
}

// P20.1: MaxStack operands, and no more.
func TestStack(t *testing.T) {
	p := api.Prog{Sigs: []api.Sig{sig(0, 0), sig(0, 1024)}}
	many := slices.Repeat([]api.Cell{konst(1)}, 1024)
	loop := func(last ...api.Cell) []api.Cell {
		return slices.Concat(slices.Repeat([]api.Cell{cellA(0x10, 1)}, 1024), last, []api.Cell{ret})
	}
	p.Funcs = []api.Fn{{Host: -1, Cells: loop()}, {Host: -1, Sig: 1, Out: 1024, Cells: append(many, ret)}, {Host: -1, Cells: loop(konst(1), drop)}, {Host: -1, Cells: loop(tick, drop, konst(1), slid(1<<20, 0), cellA(0x10, 1))}}
	m := exec.New(p, made(t, source()), host.New())
	runs(t, "full", m, 0, nil, 10, ok(10))
	runs(t, "one more", m, 2, nil, 10, fails(api.ErrBad, 10))
	runs(t, "a call more", m, 3, nil, 10, fails(api.ErrBad, 9))
}

// P20.1: 11, in the order of what is told.
func TestIndirect(t *testing.T) {
	call := func(a int, x uint64) []api.Cell {
		return []api.Cell{konst(5), konst(6), konst(7), konst(x), cellA(0x11, a), slid(1, 1), ret}
	}
	s, h := made(t, source()), host.New(21, 22, 23)
	for i, r := range []struct {
		a    int
		x    uint64
		want api.Outcome
	}{
		{1, 0, fails(api.TrapElem, 10)}, {1, 5, fails(api.TrapElem, 10)}, {1, 8, fails(api.TrapElem, 10)}, {1, 1<<32 - 1, fails(api.TrapElem, 10)}, {1, 2, ok(10, 13)}, {1, 1<<32 + 2, ok(10, 13)}, {1, 1, fails(api.TrapSig, 10)}, {2, 2, fails(api.TrapSig, 10)}, {1, 4, fails(api.ErrBad, 10)}, {2, 4, fails(api.ErrBad, 10)},
	} {
		runs(t, i, exec.New(prog(0, 1, call(r.a, r.x)...), s, h), 0, nil, 10, r.want)
	}
	runs(t, "an import", exec.New(prog(0, 1, konst(5), konst(6), konst(7), konst(3), cellA(0x11, 2), drop, slid(1, 1), ret), s, h), 0, nil, 10, ok(10, 22))
	// A type is what its number says, however it looks.
	p := prog(0, 1, call(3, 2)...)
	p.Sigs = append(p.Sigs, sig(2, 1))
	runs(t, "a like type", exec.New(p, s, h), 0, nil, 10, fails(api.TrapSig, 10))
}

// P20.1: imports.
func TestImports(t *testing.T) {
	p := prog(0, 0, tick, konst(1<<40+7), cellA(0x10, 3), ret)
	p.Sigs = append(p.Sigs, sig(1, 0), sig(2, 3))
	p.Funcs = append(p.Funcs, api.Fn{Host: 1, Sig: 3, In: 1}, api.Fn{Host: 2, Sig: 3, In: 1}, api.Fn{Host: 0, Sig: 3, In: 1}, api.Fn{Host: 0, Sig: 4, In: 2, Out: 3}, api.Fn{Host: 1, Sig: 0}, api.Fn{Host: math.MaxInt, Sig: 0})
	s, h := made(t, source()), host.New(21, 22, 1<<40+23)
	m := exec.New(p, s, h)
	runs(t, "exit", m, 0, nil, 10, api.Outcome{Err: api.ErrExit, Code: 7, Left: 9})
	for f := 4; f <= 8; f++ {
		runs(t, f, m, f, make([]uint64, p.Funcs[f].In), 10, fails(api.ErrBad, 10))
	}
	if len(h.Log()) != 1 {
		t.Error(h.Log())
	}
	runs(t, "itself", m, 2, []uint64{1<<40 + 5, 6, 7}, -1, ok(0, 21, 22, 23))
	want := []api.Event{{Func: 1, Args: []uint64{1<<40 + 7}}, {Func: 0, Args: []uint64{5, 6, 7}}}
	if !reflect.DeepEqual(h.Log(), want) {
		t.Error(h.Log())
	}
	runs(t, "a full log", exec.New(prog(0, 0, konst(1), konst(2), konst(3), cellA(0x10, 2), slid(0, 3), cellA(0x0c, 0)), s, h), 0, nil, 5, fails(api.ErrLog, 5))
}

// P20.1: depth and hops.
func TestDepthAndHops(t *testing.T) {
	up := []api.Cell{cellA(0x23, 3), konst(1), cell(0x7c), cellA(0x24, 3)}
	s := cellsRun(t, "itself", 0, 0, nil, fails(api.TrapDepth, 10), append(up, cellA(0x10, 0), ret)...)
	if x, _ := s.Slot(3); x != 9+64 {
		t.Error("calls begun", x-9)
	}
	cellsRun(t, "for ever", 0, 0, nil, fails(api.ErrHops, 10), cellA(0x0c, 0))
	cellsRun(t, "for ever, if", 0, 0, nil, fails(api.ErrHops, 10), konst(1), cellA(0x0d, 0))
	s = cellsRun(t, "hops", 0, 0, nil, fails(api.ErrHops, 10), append(up, cellA(0x0c, 0))...)
	if x, _ := s.Slot(3); x != 9+1<<18+1 {
		t.Error("hops", x-9)
	}
	s = cellsRun(t, "calls", 0, 0, nil, fails(api.ErrHops, 10), append(up, konst(1), konst(2), cellA(0x10, 1), drop, cellA(0x0c, 0))...)
	if x, _ := s.Slot(3); x != 9+1<<17+1 {
		t.Error("hops by calls", x-9)
	}
	s = cellsRun(t, "forward", 0, 0, nil, fails(api.ErrHops, 10), append(up, cellA(0x0c, 5), konst(1), cellA(0x0d, 7), cellA(0x0c, 0))...)
	if x, _ := s.Slot(3); x != 9+1<<18+1 {
		t.Error("hops forward", x-9)
	}
	// Exactly as many hops as may be: a loop that ends, counted by a local.
	for n, want := range map[uint64]api.Outcome{1 << 18: ok(10), 1<<18 + 1: fails(api.ErrHops, 10)} {
		cellsRun(t, n, 1, 0, []uint64{n + 1}, want, cellA(0x20, 0), konst(1), cell(0x7d), cellA(0x22, 0), cell(0xa7), cellA(0x0d, 0), ret)
	}
	// A trap of 11 is told ahead of the hops.
	head := []api.Cell{cellA(0x20, 0), konst(1), cell(0x7d), cellA(0x22, 0), cell(0xa7), cellA(0x0d, 0), konst(5), konst(6), cellA(0x20, 1)}
	for x, want := range map[uint64]api.Errno{0: api.TrapElem, 1: api.TrapSig, 4: api.ErrBad, 2: api.ErrHops} {
		cellsRun(t, x, 2, 0, []uint64{1<<18 + 1, x}, fails(want, 10), append(head, cellA(0x11, 1), ret)...)
	}
}

// P20.1: ErrNil, ErrArg, ErrBad ahead of the run; arguments that are cut.
func TestErrors(t *testing.T) {
	s, h := made(t, source()), host.New()
	p := prog(2, 2, cellA(0x20, 0), cellA(0x20, 1), ret)
	var none *exec.Machine
	for _, m := range []*exec.Machine{none, exec.New(p, nil, h), exec.New(p, s, nil), exec.New(api.Prog{}, nil, nil)} {
		runs(t, "nil", m, 9, nil, 10, fails(api.ErrNil, 0))
	}
	if exec.New(p, nil, nil) == nil {
		t.Error("New answers nil")
	}
	bad := prog(2, 2, cell(0x41), ret)
	for i, m := range []*exec.Machine{exec.New(p, s, h), exec.New(bad, s, h)} {
		for _, f := range []int{-1, 3, math.MinInt, math.MaxInt} {
			runs(t, f, m, f, []uint64{1, 2}, 10, fails(api.ErrArg, 0))
		}
		for _, n := range []int{0, 1, 3} {
			runs(t, n, m, 0, make([]uint64, n), 10, fails(api.ErrArg, 0))
		}
		runs(t, i, m, 0, []uint64{1, 2}, 10, []api.Outcome{ok(10, 1, 2), fails(api.ErrBad, 0)}[i])
	}
	p.Sigs[0].In[1] = i32
	args := []uint64{1<<40 + 1, 1<<40 + 2}
	runs(t, "cut", exec.New(p, s, h), 0, args, 10, ok(10, 1<<40+1, 2))
	if args[1] != 1<<40+2 {
		t.Error("what was handed in is cut")
	}
	for fuel, left := range map[int]int{-1: 0, math.MinInt: 0, 100000: 100000, 100001: 100000, math.MaxInt: 100000} {
		runs(t, fuel, exec.New(p, s, h), 0, []uint64{1, 2}, fuel, ok(left, 1, 2))
	}
}

// P20.2
func TestKept(t *testing.T) {
	s, h := made(t, source()), host.New()
	p := prog(1, 2, cellA(0x20, 1), cellA(0x20, 0), cellA(0x21, 1), konst(0), cell(0x29), konst(0), konst(77), cell(0x37), ret)
	m := exec.New(p, s, h)
	p.Funcs[0].Cells[0], p.Sigs[0].In[0] = cell(0), v128
	args := []uint64{5}
	one := m.Run(0, args, 10)
	two := m.Run(0, args, 10)
	if !slices.Equal(one.Results, []uint64{0, 0}) || !slices.Equal(two.Results, []uint64{0, 77}) || args[0] != 5 {
		t.Error(one, two, args)
	}
	one.Results[0] = 9
	s.Memory().Poke(0, bytes.Repeat([]byte{1}, 8))
	if three := m.Run(0, args, 10); !slices.Equal(three.Results, []uint64{0, 0x0101010101010101}) {
		t.Error(three)
	}
}
