package driver_test

import (
	"bytes"
	"reflect"
	"slices"
	"testing"

	"plait/api"
	"plait/driver"
	"plait/encode"
	"plait/trial"
	"plait/valid"
)

const i32, i64, v128 = api.I32, api.I64, api.V128

type code = []api.Instr

var end = api.Instr{Op: 0x0b}

func op(n int) api.Instr     { return api.Instr{Op: n} }
func opA(n, a int) api.Instr { return api.Instr{Op: n, A: a} }
func c32(x uint32) api.Instr { return api.Instr{Op: 0x41, Lo: uint64(x)} }

// sample is a module of functions "f", which adds 1, "v", which adds a vector's
// lanes to themselves, "put", which stores a vector, "self", which calls itself,
// "exit", "table", which calls by the table, and "env"; start is its start.
func sample(start int) api.Module {
	return api.Module{
		Start:   start,
		Types:   []api.Sig{{In: []int{i32}, Out: []int{i32}}, {In: []int{v128}, Out: []int{v128}}, {In: []int{i32, v128}}, {}, {In: []int{i32}}, {In: []int{i64, i64}, Out: []int{v128}}},
		Imports: []api.Import{{Module: "host", Name: "exit", Type: 4}, {Module: "env", Name: "f", Type: 1}},
		Funcs:   []int{0, 1, 2, 3, 4, 3, 3},
		Tables:  []api.Limits{{Min: 3, Max: -1}}, Mems: []api.Limits{{Min: 1, Max: -1}},
		Globals: []api.Global{{Type: v128, Mut: true, Init: code{{Op: 0xfd0c, Lo: 1, Hi: 2}, end}}},
		Exports: []api.Export{{Name: "exit"}, {Name: "env", Index: 1}, {Name: "f", Index: 2}, {Name: "v", Index: 3}, {Name: "put", Index: 4}, {Name: "self", Index: 5}, {Name: "table", Index: 6}, {Name: "g", Kind: 3}},
		Elems:   []api.Elem{{Offset: code{c32(1), end}, Funcs: []int{3}}},
		Codes: []api.Code{
			{Body: code{opA(0x20, 0), c32(1), op(0x6a), end}},
			{Body: code{opA(0x20, 0), opA(0x20, 0), op(0xfdce), opA(0x22, 0), opA(0x24, 0), opA(0x20, 0), end}},
			{Body: code{opA(0x20, 0), opA(0x20, 1), op(0xfd0b), end}},
			{Body: code{opA(0x10, 5), end}},
			{Body: code{{Op: 0x42}, {Op: 0x42}, opA(0x20, 0), opA(0x11, 5), op(0x1a), end}},
			{Body: code{c32(7), opA(0x10, 0), end}},
			{Body: code{op(0), end}},
		},
	}
}

func bytesOf(m api.Module) []byte {
	b, _ := encode.Encode(m)
	return b
}

func load(m api.Module) api.Step { return api.Step{Kind: api.StepLoad, Bytes: bytesOf(m)} }

func fresh(engine, fuel int) api.Step {
	return api.Step{Kind: api.StepNew, Engine: engine, Fuel: fuel}
}

func invoke(name string, engine, fuel int, args ...uint64) api.Step {
	return api.Step{Kind: api.StepInvoke, Name: name, Engine: engine, Fuel: fuel, Args: args}
}

func reply(args ...uint64) api.Step { return api.Step{Kind: api.StepReply, Args: args} }
func memory(at, n int) api.Step     { return api.Step{Kind: api.StepMemory, At: at, Len: n} }
func global(name string) api.Step   { return api.Step{Kind: api.StepGlobal, Name: name} }

var log = api.Step{Kind: api.StepLog}

func fails(e api.Errno) api.Answer { return api.Answer{Err: e} }

// alike tells whether two answers are the same, nil lists as empty.
func alike(a, b api.Answer) bool {
	same := slices.EqualFunc(a.Events, b.Events, func(x, y api.Event) bool { return x.Func == y.Func && slices.Equal(x.Args, y.Args) })
	return a.Err == b.Err && a.Code == b.Code && a.Left == b.Left && slices.Equal(a.Values, b.Values) && bytes.Equal(a.Data, b.Data) && same
}

// says runs a script, with the engines as they are and the other way round.
func says(t *testing.T, script []api.Step, want ...api.Answer) {
	t.Helper()
	turned := slices.Clone(script)
	for i := range turned {
		if e := turned[i].Engine; e == 0 || e == 1 {
			turned[i].Engine = 1 - e
		}
	}
	for _, s := range [][]api.Step{script, turned} {
		got := driver.Run(s)
		if len(got) != len(want) {
			t.Fatalf("%d answers, want %d", len(got), len(want))
		}
		for i := range want {
			if !alike(got[i], want[i]) {
				t.Errorf("step %d: %+v, want %+v", i, got[i], want[i])
			}
		}
	}
}

// P27.1: the document's examples of this layer.
func TestExamples(t *testing.T) {
	says(t, []api.Step{log, memory(0, 1), {}, fresh(0, 1)}, api.Answer{}, fails(api.ErrState), fails(api.ErrKind), fails(api.ErrState))
	bad := api.Step{Kind: api.StepLoad, Bytes: []byte("x")}
	says(t, []api.Step{bad}, fails(api.ErrForm))
	says(t, []api.Step{load(sample(-1)), fresh(1, 100), invoke("f", 0, 10, 41), bad, invoke("f", 1, 10, 1), load(sample(-1)), invoke("f", 0, 10, 1)},
		api.Answer{}, api.Answer{Left: 100}, api.Answer{Values: []uint64{42}, Left: 7}, fails(api.ErrForm), api.Answer{Values: []uint64{2}, Left: 7}, api.Answer{}, fails(api.ErrState))
	says(t, nil)
}

// The document's ten examples of the whole.
func TestWhole(t *testing.T) {
	head := api.Step{Kind: api.StepLoad, Bytes: []byte("\x00asm\x01\x00\x00\x00")}
	float, untyped := sample(-1), sample(-1)
	untyped.Codes[0].Body = code{op(0x6a), end}
	b := bytesOf(float)
	at := bytes.Index(b, []byte{0x20, 0, 0x41, 1, 0x6a})
	b[at] = 0x43
	says(t, []api.Step{head, {Kind: api.StepLoad, Bytes: b}, load(untyped)}, api.Answer{}, fails(api.ErrFloat), fails(api.ErrValid))
	says(t, []api.Step{load(sample(-1)), fresh(0, 100), invoke("f", 0, 2, 41), invoke("v", 1, 100, 3, 4), invoke("put", 0, 100, 65521, 1<<64-1, 1<<64-1), memory(65521, 15), invoke("put", 0, 100, 65520, 1, 2), memory(65519, 17), invoke("self", 1, 1000), invoke("table", 0, 100, 0), invoke("table", 0, 100, 1), global("g"), invoke("exit", 0, 100, 7), log},
		api.Answer{}, api.Answer{Left: 100}, fails(api.ErrFuel), api.Answer{Values: []uint64{6, 8}, Left: 94}, api.Answer{Err: api.TrapBounds, Left: 97}, api.Answer{Data: make([]byte, 15)}, api.Answer{Left: 97}, api.Answer{Data: []byte{0, 1, 0, 0, 0, 0, 0, 0, 0, 2, 0, 0, 0, 0, 0, 0, 0}},
		api.Answer{Err: api.TrapDepth, Left: 936}, api.Answer{Err: api.TrapElem, Left: 96}, api.Answer{Err: api.TrapSig, Left: 96}, api.Answer{Values: []uint64{6, 8}}, api.Answer{Err: api.ErrExit, Code: 7, Left: 100}, api.Answer{Events: []api.Event{{Func: 0, Args: []uint64{7}}}})
}

// P27.1: what each step changes, and what it doesn't.
func TestState(t *testing.T) {
	event := api.Event{Func: 1, Args: []uint64{8, 9}}
	says(t, []api.Step{reply(1, 2, 3), load(sample(-1)), fresh(0, 5), invoke("env", 0, 5, 8, 9), reply(4, 5, 6), invoke("env", 1, 5, 8, 9), log, fresh(0, 6), log, invoke("env", 1, 5, 8, 9), load(sample(-1)), log, fresh(1, 7), invoke("env", 0, 5, 8, 9)},
		api.Answer{}, api.Answer{}, api.Answer{Left: 5}, api.Answer{Values: []uint64{0, 0}, Left: 5}, api.Answer{}, api.Answer{Values: []uint64{4, 5}, Left: 5}, api.Answer{Events: []api.Event{event, event}}, api.Answer{Left: 6}, api.Answer{Events: []api.Event{event, event}}, api.Answer{Values: []uint64{6, 0}, Left: 5}, api.Answer{}, api.Answer{}, api.Answer{Left: 7}, api.Answer{Values: []uint64{0, 0}, Left: 5})
	says(t, []api.Step{load(sample(-1)), fresh(0, 5), invoke("v", 1, 50, 3, 4), global("g"), fresh(1, 5), global("g"), fresh(2, 5), global("g"), invoke("f", 0, 5, 1), memory(0, 1)},
		api.Answer{}, api.Answer{Left: 5}, api.Answer{Values: []uint64{6, 8}, Left: 44}, api.Answer{Values: []uint64{6, 8}}, api.Answer{Left: 5}, api.Answer{Values: []uint64{1, 2}}, fails(api.ErrKind), fails(api.ErrState), fails(api.ErrState), fails(api.ErrState))
	says(t, []api.Step{load(sample(7)), fresh(0, 50), log, invoke("f", 0, 5, 1), load(sample(8)), fresh(1, 50), global("g"), load(sample(-1)), fresh(0, 3), invoke("f", 3, 5, 1), invoke("x", 0, 5, 1), invoke("f", 0, 5), global("x"), memory(-1, 0), memory(65536, 1), invoke("f", 1, 5, 1)},
		api.Answer{}, api.Answer{Err: api.ErrExit, Code: 7, Left: 48}, api.Answer{Events: []api.Event{{Func: 0, Args: []uint64{7}}}}, fails(api.ErrState), api.Answer{}, api.Answer{Err: api.TrapUnreachable, Left: 49}, fails(api.ErrState), api.Answer{}, api.Answer{Left: 3}, fails(api.ErrKind), fails(api.ErrExport), fails(api.ErrArity), fails(api.ErrExport), fails(api.ErrArg), fails(api.TrapBounds), api.Answer{Values: []uint64{2}, Left: 2})
	says(t, []api.Step{reply(make([]uint64, 4097)...), reply(make([]uint64, 4096)...), reply(1), {Kind: -1}, {Kind: 8}, invoke("f", 0, 1), global("g")},
		fails(api.ErrMany), api.Answer{}, fails(api.ErrMany), fails(api.ErrKind), fails(api.ErrKind), fails(api.ErrState), fails(api.ErrState))
	// Fields that a step's kind doesn't name are passed over.
	all := api.Step{Bytes: []byte("x"), Name: "f", Args: []uint64{5}, Fuel: 9, Engine: 1, At: 3, Len: 2}
	of := func(kind int) api.Step {
		all.Kind = kind
		return all
	}
	says(t, []api.Step{load(sample(-1)), of(api.StepNew), of(api.StepInvoke), of(api.StepMemory), of(api.StepGlobal), of(api.StepReply), of(api.StepLog), of(9), of(api.StepLoad)},
		api.Answer{}, api.Answer{Left: 9}, api.Answer{Values: []uint64{6}, Left: 6}, api.Answer{Data: []byte{0, 0}}, fails(api.ErrExport), api.Answer{}, api.Answer{}, fails(api.ErrKind), fails(api.ErrForm))
}

// script is a script about a module without a shape.
func script(seed uint64, engine func(i int) int) []api.Step {
	m := trial.Module(seed)
	steps := []api.Step{load(m), fresh(engine(0), 10), reply(seed, 5, 1<<40+6)}
	for i := range 12 {
		f := int(seed>>1+uint64(i)) % 4
		s, _ := valid.Sig(m, 2+f)
		steps = append(steps, invoke("f"+string(rune('0'+f)), engine(i+1), 20+i*i*10, trial.Arguments(seed+uint64(i), s.In)...))
		steps = append(steps, memory(65400, 136), log)
	}
	for _, g := range []string{"g0", "g1", "g2", "g3"} {
		steps = append(steps, global(g))
	}
	return steps
}

// P27.2
func TestEngines(t *testing.T) {
	for seed := range uint64(150) {
		want := driver.Run(script(seed, func(int) int { return 0 }))
		for k, engine := range []func(int) int{func(int) int { return 1 }, func(i int) int { return i & 1 }, func(i int) int { return i / 2 & 1 }} {
			got := driver.Run(script(seed, engine))
			for i := range want {
				if !alike(got[i], want[i]) {
					t.Fatalf("seed %d, engines %d, step %d: %+v, want %+v", seed, k, i, got[i], want[i])
				}
			}
		}
	}
}

// P27.1, P27.3
func TestMemory(t *testing.T) {
	steps := []api.Step{load(sample(-1)), fresh(0, 9), reply(1, 2, 3, 4), invoke("env", 0, 9, 5, 6), log, log, memory(0, 4), memory(0, 4), global("g"), global("g"), invoke("f", 1, 9, 5)}
	before := slices.Clone(steps)
	one, two := driver.Run(steps), driver.Run(steps)
	if !reflect.DeepEqual(one, two) || !reflect.DeepEqual(steps, before) || !bytes.Equal(steps[0].Bytes, bytesOf(sample(-1))) {
		t.Error("something is kept from script to script")
	}
	one[4].Events[0].Args[0], one[4].Events[0].Func, one[6].Data[0], one[8].Values[0] = 9, 9, 9, 9
	if one[5].Events[0].Args[0] != 5 || one[5].Events[0].Func != 1 || one[7].Data[0] != 0 || one[9].Values[0] != 1 {
		t.Error("answers share memory")
	}
	for i := range steps[0].Bytes {
		steps[0].Bytes[i] = 0
	}
	if two[3].Values[1] != 2 || steps[2].Args[0] != 1 {
		t.Error("what was handed in is kept")
	}
}
