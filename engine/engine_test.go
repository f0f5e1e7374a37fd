package engine_test

import (
	"bytes"
	"math"
	"reflect"
	"slices"
	"testing"

	"plait/api"
	"plait/encode"
	"plait/engine"
	"plait/flat"
	"plait/host"
	"plait/module"
	"plait/trial"
	"plait/valid"
)

const i32, i64, v128 = api.I32, api.I64, api.V128

type code = []api.Instr

var end = api.Instr{Op: 0x0b}

func op(n int) api.Instr     { return api.Instr{Op: n} }
func opA(n, a int) api.Instr { return api.Instr{Op: n, A: a} }
func c32(x uint32) api.Instr { return api.Instr{Op: 0x41, Lo: uint64(x)} }

// sample is a module that exports "f", which adds 1, "v", which adds vectors and
// sets a global, "env", an import, "up", which raises a global, globals "g" and
// "h", the memory and the table; start is its start function.
func sample(start int) api.Module {
	return api.Module{
		Start:   start,
		Types:   []api.Sig{{In: []int{i32}, Out: []int{i32}}, {In: []int{v128, v128}, Out: []int{v128}}, {}, {In: []int{i64}, Out: []int{i32, i64}}, {In: []int{i32}}},
		Imports: []api.Import{{Module: "env", Name: "f", Type: 3}, {Module: "host", Name: "exit", Type: 4}},
		Funcs:   []int{0, 1, 2, 2, 2, 2},
		Tables:  []api.Limits{{Min: 1, Max: -1}},
		Mems:    []api.Limits{{Min: 1, Max: -1}},
		Globals: []api.Global{{Type: i32, Mut: true, Init: code{c32(7), end}}, {Type: v128, Mut: true, Init: code{{Op: 0xfd0c, Lo: 1, Hi: 2}, end}}},
		Exports: []api.Export{{Name: "f", Index: 2}, {Name: "v", Index: 3}, {Name: "env", Index: 0}, {Name: "g", Kind: 3, Index: 0}, {Name: "h", Kind: 3, Index: 1}, {Name: "m", Kind: 2}, {Name: "t", Kind: 1}, {Name: "up", Index: 4}, {Name: "exit", Index: 1}, {Name: ""}, {Name: "loop", Index: 7}},
		Codes: []api.Code{
			{Body: code{opA(0x20, 0), c32(1), op(0x6a), end}},
			{Body: code{opA(0x20, 0), opA(0x20, 1), op(0xfdce), opA(0x24, 1), opA(0x23, 1), c32(3), opA(0x20, 0), {Op: 0xfd0b, B: 5}, end}},
			{Body: code{opA(0x23, 0), c32(1), op(0x6a), opA(0x24, 0), end}},
			{Body: code{op(0), end}},
			{Body: code{c32(9), opA(0x10, 1), end}},
			{Body: code{opA(3, api.Empty), opA(0x0c, 0), end, end}},
		},
	}
}

func bytesOf(t *testing.T, m api.Module) []byte {
	t.Helper()
	b, e := encode.Encode(m)
	if e != 0 {
		t.Fatal(e)
	}
	return b
}

func loaded(t *testing.T, m api.Module) *engine.Unit {
	t.Helper()
	u, e := engine.Load(bytesOf(t, m))
	if e != 0 || u == nil {
		t.Fatal(e)
	}
	return u
}

func alike(a, b api.Outcome) bool {
	return a.Err == b.Err && a.Code == b.Code && a.Left == b.Left && slices.Equal(a.Results, b.Results)
}

func is(t *testing.T, what any, got, want api.Outcome) {
	t.Helper()
	if !alike(got, want) || got.Err != 0 && got.Results != nil {
		t.Errorf("%v: %+v, want %+v", what, got, want)
	}
}

// P26.1
func TestLoad(t *testing.T) {
	m := sample(-1)
	u := loaded(t, m)
	back, _ := module.Decode(bytesOf(t, m))
	p, _ := flat.Module(back)
	if !reflect.DeepEqual(u.Module(), back) || !reflect.DeepEqual(u.Prog(), p) {
		t.Error("Module or Prog")
	}
	bad := sample(-1)
	bad.Codes[0].Body = code{end}
	head := bytesOf(t, api.Module{Start: -1})
	rows := []struct {
		b []byte
		e api.Errno
	}{
		{[]byte("x"), api.ErrForm}, {nil, api.ErrForm}, {make([]byte, 16385), api.ErrLong}, {bytesOf(t, bad), api.ErrValid}, {head, 0}, {append(bytes.Clone(head), 1, 5, 1, 0x60, 1, 0x7d, 0), api.ErrFloat}, {append(bytes.Clone(head), 5, 3, 1, 0, 17), api.ErrMany}, {append(bytes.Clone(head), 8, 1, 0), api.ErrValid},
	}
	for i, r := range rows {
		if u, e := engine.Load(r.b); e != r.e || (u == nil) != (e != 0) {
			t.Error(i, u != nil, e, r.e)
		}
	}
	var none *engine.Unit
	if !reflect.DeepEqual(none.Module(), api.Module{}) || !reflect.DeepEqual(none.Prog(), api.Prog{}) {
		t.Error("of nil")
	}
}

// P26.2
func TestNew(t *testing.T) {
	u, h := loaded(t, sample(-1)), host.New()
	for engine := range 2 {
		for fuel, left := range map[int]int{100: 100, 0: 0, -1: 0, math.MinInt: 0, 100001: 100000, math.MaxInt: 100000} {
			x, out := u.New(h, engine, fuel)
			is(t, fuel, out, api.Outcome{Left: left})
			if x == nil {
				t.Error("no instance")
			}
		}
	}
	var none *engine.Unit
	for _, r := range []struct {
		u      *engine.Unit
		h      *host.Host
		engine int
		e      api.Errno
	}{{none, h, 0, api.ErrNil}, {u, nil, 0, api.ErrNil}, {none, nil, 7, api.ErrNil}, {u, nil, 7, api.ErrNil}, {u, h, 2, api.ErrKind}, {u, h, -1, api.ErrKind}, {u, h, math.MaxInt, api.ErrKind}} {
		x, out := r.u.New(r.h, r.engine, 50)
		is(t, r, out, api.Outcome{Err: r.e})
		if x != nil {
			t.Error(r)
		}
	}
	m := sample(3 + 2) // would trap
	m.Elems = []api.Elem{{Offset: code{c32(2), end}}}
	for engine, want := range []api.Errno{api.ErrElem, api.ErrElem, api.ErrKind} {
		x, out := loaded(t, m).New(h, engine, 50)
		is(t, "a segment", out, api.Outcome{Err: want})
		if x != nil {
			t.Error("an instance")
		}
	}
	m = sample(-1)
	m.Datas = []api.Data{{Offset: code{c32(65536), end}, Bytes: []byte{1}}}
	_, out := loaded(t, m).New(h, 0, 50)
	is(t, "a segment", out, api.Outcome{Err: api.ErrData})
}

// P26.2: starts.
func TestStart(t *testing.T) {
	for engine := range 2 {
		h := host.New()
		x, out := loaded(t, sample(4)).New(h, engine, 50)
		is(t, "up", out, api.Outcome{Left: 46})
		if g, e := x.Global("g"); !slices.Equal(g, []uint64{8}) || e != 0 {
			t.Error(g, e)
		}
		for start, want := range map[int]api.Outcome{5: {Err: api.TrapUnreachable, Left: 49}, 6: {Err: api.ErrExit, Code: 9, Left: 48}, 7: {Err: api.ErrFuel}} {
			x, out := loaded(t, sample(start)).New(h, engine, 50)
			is(t, start, out, want)
			if x != nil {
				t.Error("an instance")
			}
		}
		if len(h.Log()) != 1 || h.Code() != 9 {
			t.Error("what a start has done to the host stays", h.Log())
		}
		_, out = loaded(t, sample(4)).New(h, engine, 3)
		is(t, "little fuel", out, api.Outcome{Err: api.ErrFuel})
	}
	m := sample(0) // an import may be the start
	m.Types[3] = api.Sig{}
	h := host.New()
	_, out := loaded(t, m).New(h, 1, 3)
	is(t, "an import", out, api.Outcome{Left: 3})
	if len(h.Log()) != 1 {
		t.Error(h.Log())
	}
}

// P26.3
func TestInvoke(t *testing.T) {
	for engine := range 2 {
		h := host.New(1<<40+3, 4)
		x, _ := loaded(t, sample(-1)).New(h, 1-engine, 100)
		rows := []struct {
			name string
			args []uint64
			fuel int
			want api.Outcome
		}{
			{"f", []uint64{41}, 10, api.Outcome{Results: []uint64{42}, Left: 7}}, {"f", []uint64{1<<40 + 41}, 3, api.Outcome{Results: []uint64{42}}}, {"f", []uint64{41}, 2, api.Outcome{Err: api.ErrFuel}}, {"v", []uint64{3, 4, 5, 6}, 10, api.Outcome{Results: []uint64{8, 10}, Left: 2}},
			{"f", nil, 10, api.Outcome{Err: api.ErrArity}}, {"f", []uint64{1, 2}, 10, api.Outcome{Err: api.ErrArity}}, {"v", []uint64{1, 2}, 10, api.Outcome{Err: api.ErrArity}}, {"x", nil, 10, api.Outcome{Err: api.ErrExport}}, {"g", nil, 10, api.Outcome{Err: api.ErrExport}}, {"m", nil, 10, api.Outcome{Err: api.ErrExport}}, {"t", nil, 10, api.Outcome{Err: api.ErrExport}},
			{"env", []uint64{6}, 10, api.Outcome{Results: []uint64{3, 4}, Left: 10}}, {"", []uint64{6}, 0, api.Outcome{Results: []uint64{0, 0}}}, {"exit", []uint64{1<<32 + 5}, 10, api.Outcome{Err: api.ErrExit, Code: 5, Left: 10}}, {"up", nil, math.MaxInt, api.Outcome{Left: 99996}}, {"loop", nil, 1000, api.Outcome{Err: api.ErrFuel}},
		}
		for _, r := range rows {
			is(t, r, x.Invoke(r.name, r.args, r.fuel, engine), r.want)
		}
		for _, other := range []int{-1, 2, math.MinInt, math.MaxInt} {
			is(t, other, x.Invoke("x", nil, 10, other), api.Outcome{Err: api.ErrKind})
		}
		if g, _ := x.Global("g"); !slices.Equal(g, []uint64{8}) {
			t.Error(g)
		}
		is(t, "the other engine", x.Invoke("up", nil, 10, 1-engine), api.Outcome{Left: 6})
		if g, _ := x.Global("g"); !slices.Equal(g, []uint64{9}) {
			t.Error(g)
		}
	}
	var none *engine.Instance
	is(t, "nil", none.Invoke("f", nil, 10, 9), api.Outcome{Err: api.ErrNil})
}

// P26.4
func TestLooks(t *testing.T) {
	x, _ := loaded(t, sample(-1)).New(host.New(), 0, 100)
	x.Invoke("v", []uint64{3, 4, 5, 6}, 100, 1)
	for name, want := range map[string][]uint64{"g": {7}, "h": {8, 10}} {
		if g, e := x.Global(name); !slices.Equal(g, want) || e != 0 {
			t.Error(name, g, e)
		}
	}
	for _, name := range []string{"f", "m", "t", "x", ""} {
		if g, e := x.Global(name); g != nil || e != api.ErrExport {
			t.Error(name, g, e)
		}
	}
	if b, e := x.Peek(7, 10); !bytes.Equal(b, []byte{0, 3, 0, 0, 0, 0, 0, 0, 0, 4}) || e != 0 {
		t.Error(b, e)
	}
	for _, r := range []struct {
		at, n int
		e     api.Errno
	}{{-1, 0, api.ErrArg}, {0, 4097, api.ErrArg}, {65536, 1, api.TrapBounds}, {65536, 0, 0}} {
		if _, e := x.Peek(r.at, r.n); e != r.e {
			t.Error(r, e)
		}
	}
	m := sample(-1)
	m.Mems, m.Exports = nil, m.Exports[:1]
	m.Codes[1].Body = code{opA(0x20, 0), end}
	y, _ := loaded(t, m).New(host.New(), 0, 100)
	if b, e := y.Peek(-1, -1); b != nil || e != api.ErrNil {
		t.Error(b, e)
	}
	var none *engine.Instance
	if g, e := none.Global("x"); g != nil || e != api.ErrNil {
		t.Error(g, e)
	}
	if b, e := none.Peek(-1, -1); b != nil || e != api.ErrNil {
		t.Error(b, e)
	}
}

// P26.3: both engines answer the same, whichever did what stands ahead.
func TestEngines(t *testing.T) {
	for seed := range uint64(60) {
		m := trial.Module(seed)
		u := loaded(t, m)
		var xs []*engine.Instance
		var hs []*host.Host
		for k := range 4 {
			h := host.New(seed, 2, 3)
			x, _ := u.New(h, k%2, 10)
			xs, hs = append(xs, x), append(hs, h)
		}
		for step := range uint64(8) {
			f := int(step+seed) % 4
			s, _ := valid.Sig(m, 2+f)
			args := trial.Arguments(seed+step, s.In)
			var outs []api.Outcome
			for k, x := range xs {
				outs = append(outs, x.Invoke("f"+string(rune('0'+f)), args, 50+int(step)*40, k>>(step%2)&1))
			}
			for k := range outs {
				if !alike(outs[0], outs[k]) || !reflect.DeepEqual(hs[0].Log(), hs[k].Log()) {
					t.Fatal(seed, step, outs)
				}
			}
		}
		for _, g := range []string{"g0", "g1", "g2", "g3"} {
			a, _ := xs[0].Global(g)
			for _, x := range xs {
				if b, _ := x.Global(g); !slices.Equal(a, b) {
					t.Fatal(seed, g, a, b)
				}
			}
		}
	}
}

// P26.3: a run with less fuel is a beginning of the run with more.
func TestFuel(t *testing.T) {
	for seed := range uint64(40) {
		u := loaded(t, trial.Module(seed))
		s, _ := valid.Sig(u.Module(), 2)
		for engine := range 2 {
			var last api.Outcome
			var log []api.Event
			for fuel := range 80 {
				h := host.New(seed, 2, 3)
				x, _ := u.New(h, engine, 0)
				out := x.Invoke("f0", trial.Arguments(seed, s.In), fuel, engine)
				now := h.Log()
				if len(now) < len(log) || len(log) > 0 && !reflect.DeepEqual(now[:len(log)], log) {
					t.Fatal(seed, engine, fuel, log, now)
				}
				last.Left++
				if fuel > 0 && last.Err != api.ErrFuel && !alike(last, out) || out.Err == api.ErrFuel && out.Left != 0 {
					t.Fatal(seed, engine, fuel, last, out)
				}
				last, log = out, now
			}
		}
	}
}

// P26.5
func TestMemory(t *testing.T) {
	b := bytesOf(t, sample(-1))
	u, _ := engine.Load(b)
	for i := range b {
		b[i] = 0xee
	}
	m, p := u.Module(), u.Prog()
	x, _ := u.New(host.New(), 0, 100)
	for f := range m.Codes {
		for i := range m.Codes[f].Body {
			m.Codes[f].Body[i] = api.Instr{}
		}
	}
	m.Exports[0].Name = "z"
	for f := range p.Funcs {
		for i := range p.Funcs[f].Cells {
			p.Funcs[f].Cells[i] = api.Cell{}
		}
	}
	if w, _ := module.Decode(bytesOf(t, sample(-1))); !reflect.DeepEqual(u.Module(), w) {
		t.Error("Module shares memory")
	}
	args := []uint64{41}
	for engine := range 2 {
		one, two := x.Invoke("f", args, 10, engine), x.Invoke("f", args, 10, engine)
		one.Results[0] = 5
		if two.Results[0] != 42 || args[0] != 41 {
			t.Error(two, args)
		}
	}
	g, _ := x.Global("h")
	g[0] = 77
	if k, _ := x.Global("h"); k[0] != 1 {
		t.Error("Global shares memory")
	}
	y, _ := u.New(host.New(), 0, 100)
	y.Invoke("up", nil, 100, 0)
	if g, _ := x.Global("g"); g[0] != 7 {
		t.Error("instances share a store")
	}
}
