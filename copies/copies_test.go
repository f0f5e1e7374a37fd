package copies

import (
	"reflect"
	"testing"

	"plait/api"
)

func module() api.Module {
	code := func() []api.Instr {
		return []api.Instr{{Op: 0x0e, A: 1, B: 2, Lo: 3, Hi: 4, L: []int{5, 6}}, {Op: 0x0b}}
	}
	return api.Module{
		Types:   []api.Sig{{In: []int{1}, Out: []int{2, 3}}},
		Imports: []api.Import{{Module: "a", Name: "b", Type: 1}},
		Funcs:   []int{1, 2},
		Tables:  []api.Limits{{Min: 1, Max: 2}},
		Mems:    []api.Limits{{Min: 3, Max: 4}},
		Globals: []api.Global{{Type: 5, Mut: true, Init: code()}},
		Exports: []api.Export{{Name: "x", Kind: 1, Index: 2}},
		Start:   7,
		Elems:   []api.Elem{{Offset: code(), Funcs: []int{8}}},
		Codes:   []api.Code{{Locals: []int{9}, Body: code()}},
		Datas:   []api.Data{{Offset: code(), Bytes: []byte{10}}},
	}
}

func prog() api.Prog {
	return api.Prog{
		Sigs:  []api.Sig{{In: []int{1}, Out: []int{2}}},
		Funcs: []api.Fn{{Host: -1, Sig: 1, In: 2, Out: 3, Locals: 4, Cells: []api.Cell{{Op: 1, A: 2, N: 3}}, Marks: []int{5}}},
	}
}

// spoil changes everything that hangs on a value by memory.
func spoil(v reflect.Value) {
	switch v.Kind() {
	case reflect.Slice:
		for i := range v.Len() {
			spoil(v.Index(i))
			v.Index(i).SetZero()
		}
	case reflect.Struct:
		for i := range v.NumField() {
			spoil(v.Field(i))
		}
	}
}

// Copies are the same, and what happens to one happens to no other.
func TestCopies(t *testing.T) {
	m, p := module(), prog()
	m2, p2 := Module(m), Prog(p)
	if !reflect.DeepEqual(m2, module()) || !reflect.DeepEqual(p2, prog()) {
		t.Error("copies differ", m2, p2)
	}
	spoil(reflect.ValueOf(&m).Elem())
	spoil(reflect.ValueOf(&p).Elem())
	if reflect.DeepEqual(m, module()) || !reflect.DeepEqual(m2, module()) || !reflect.DeepEqual(p2, prog()) {
		t.Error("copies share memory")
	}
	if !reflect.DeepEqual(Module(api.Module{}), api.Module{}) || !reflect.DeepEqual(Prog(api.Prog{}), api.Prog{}) {
		t.Error("of nothing")
	}
}
