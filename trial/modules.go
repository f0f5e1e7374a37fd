package trial

import (
	"slices"

	"plait/api"
	"plait/instr"
	"plait/ops"
)

// dice are numbers without a shape that hang on a seed alone.
type dice struct {
	state uint64
}

// draw gives 64 bits.
func (d *dice) draw() uint64 {
	d.state ^= d.state << 13
	d.state ^= d.state >> 7
	d.state ^= d.state << 17
	return d.state * 0x2545f4914f6cdd1d
}

// roll gives a number from 0 to n - 1.
func (d *dice) roll(n int) int {
	return int(d.draw() >> 33 % uint64(n))
}

// number gives a number that is often small, or stands at an end.
func (d *dice) number() uint64 {
	x := d.draw()
	switch d.roll(6) {
	case 0:
		return uint64(d.roll(16))
	case 1:
		return -uint64(d.roll(16))
	case 2:
		return 1 << d.roll(64)
	case 3:
		return uint64(d.roll(1 << 16))
	}
	return x
}

// kind gives a type of a value.
func (d *dice) kind() int {
	return [...]int{api.I32, api.I64, api.V128, api.V128}[d.roll(4)]
}

// kinds gives up to most types.
func (d *dice) kinds(most int) []int {
	var types []int
	for range d.roll(most + 1) {
		types = append(types, d.kind())
	}
	return types
}

// Module makes a typed module that hangs on the seed alone, with a memory, a
// table, globals, two imports and four functions "f0" to "f3".
func Module(seed uint64) api.Module {
	d := &dice{state: seed*0x9e3779b97f4a7c15 + 1}
	end := api.Instr{Op: ops.End}
	m := api.Module{
		Start:   -1,
		Types:   []api.Sig{{}, {In: []int{api.V128}, Out: []int{api.V128}}, {In: []int{api.I64, api.I64}, Out: []int{api.V128}}, {In: []int{api.I32}}},
		Imports: []api.Import{{Module: "env", Name: "f", Type: 4}, {Module: "host", Name: "exit", Type: 3}},
		Tables:  []api.Limits{{Min: 8, Max: -1}},
		Mems:    []api.Limits{{Min: 1, Max: 2}},
		Elems:   []api.Elem{{Offset: []api.Instr{{Op: ops.ConstI32, Lo: 1}, end}, Funcs: []int{0, 2, 3, 4, 5, 2}}},
		Datas:   []api.Data{{Offset: []api.Instr{{Op: ops.ConstI32, Lo: 65500}, end}, Bytes: []byte("all lanes of a half at once")}},
	}
	for range 4 {
		m.Types = append(m.Types, api.Sig{In: d.kinds(3), Out: d.kinds(3)})
	}
	for _, t := range []int{api.I32, api.V128, api.I64, api.V128} {
		m.Globals = append(m.Globals, api.Global{Type: t, Mut: true, Init: []api.Instr{d.constant(t), end}})
	}
	for f := range 4 {
		m.Funcs = append(m.Funcs, 1+d.roll(len(m.Types)-1))
		m.Exports = append(m.Exports, api.Export{Name: "f" + string(rune('0'+f)), Index: 2 + f})
	}
	for f := range 4 {
		w := &writer{dice: d, module: m, sig: m.Types[m.Funcs[f]]}
		m.Codes = append(m.Codes, w.function())
	}
	for i, name := range []string{"g0", "g1", "g2", "g3"} {
		m.Exports = append(m.Exports, api.Export{Name: name, Kind: 3, Index: i})
	}
	return m
}

// constant gives a constant of a type.
func (d *dice) constant(t int) api.Instr {
	switch t {
	case api.I32:
		return api.Instr{Op: ops.ConstI32, Lo: uint64(uint32(d.number()))}
	case api.I64:
		return api.Instr{Op: ops.ConstI64, Lo: d.number()}
	}
	return api.Instr{Op: ops.ConstV128, Lo: d.number(), Hi: d.number()}
}

// Arguments gives halves for the parameters of a function.
func Arguments(seed uint64, types []int) []uint64 {
	d := &dice{state: seed*0x9e3779b97f4a7c15 + 1}
	var halves []uint64
	for _, t := range types {
		halves = append(halves, d.number())
		if t == api.V128 {
			halves = append(halves, d.number())
		}
	}
	return halves
}

// plainOps are the opcodes of plain instructions that are no constants; those of
// vectors come last.
func plainOps() []int {
	var all []int
	for n := range 0x200 {
		op := n
		if n >= 0x100 {
			op = ops.Vectors + n - 0x100
		}
		if info, ok := instr.Of(op); ok && info.Plain && len(info.In) > 0 {
			all = append(all, op)
		}
	}
	return all
}

// suits tells whether the top of a stack is of these types.
func suits(stack, types []int) bool {
	return len(stack) >= len(types) && slices.Equal(stack[len(stack)-len(types):], types)
}
