package store_test

import (
	"bytes"
	"math"
	"reflect"
	"testing"

	"plait/api"
	"plait/store"
)

var end = api.Instr{Op: 0x0b}

func at(k uint64) []api.Instr { return []api.Instr{{Op: 0x41, Lo: k}, end} }

func global(t, op int, lo, hi uint64) api.Global {
	return api.Global{Type: t, Init: []api.Instr{{Op: op, Lo: lo, Hi: hi}, end}}
}

// full is a module with globals, a table of three places and a memory of one
// page, and six functions.
func full() api.Module {
	m := api.Module{
		Start:   -1,
		Types:   []api.Sig{{}},
		Globals: []api.Global{global(api.I32, 0x41, 7, 0), global(api.V128, 0xfd0c, 1, 2), global(api.I64, 0x42, 9, 0)},
		Tables:  []api.Limits{{Min: 3, Max: -1}},
		Mems:    []api.Limits{{Min: 1, Max: 2}},
		Elems:   []api.Elem{{Offset: at(1), Funcs: []int{4, 5}}},
		Datas:   []api.Data{{Offset: at(10), Bytes: []byte{1, 2, 3}}, {Offset: at(12), Bytes: []byte{9, 8}}},
	}
	for range 6 {
		m.Funcs = append(m.Funcs, 0)
		m.Codes = append(m.Codes, api.Code{Body: []api.Instr{end}})
	}
	return m
}

func made(t *testing.T, m api.Module) *store.Store {
	t.Helper()
	s, e := store.New(m)
	if e != 0 || s == nil {
		t.Fatal(e)
	}
	return s
}

func slot(t *testing.T, s *store.Store, k int, want uint64, there bool) {
	t.Helper()
	if x, ok := s.Slot(k); x != want || ok != there {
		t.Errorf("Slot(%d): %d, %v", k, x, ok)
	}
}

func elem(t *testing.T, s *store.Store, i uint32, want int, there bool) {
	t.Helper()
	if f, ok := s.Elem(i); f != want || ok != there {
		t.Errorf("Elem(%d): %d, %v", i, f, ok)
	}
}

// P17.1: what globals, table and memory begin as.
func TestNew(t *testing.T) {
	s := made(t, full())
	for k, x := range []uint64{7, 1, 2, 9} {
		slot(t, s, k, x, true)
	}
	elem(t, s, 0, 0, false)
	elem(t, s, 1, 4, true)
	elem(t, s, 2, 5, true)
	b, e := s.Memory().Peek(8, 8)
	if e != 0 || !bytes.Equal(b, []byte{0, 0, 1, 2, 9, 8, 0, 0}) || s.Memory().Pages() != 1 || s.Memory().Grow(2) != 1<<32-1 || s.Memory().Grow(1) != 1 {
		t.Error(b, e)
	}
	m := full()
	m.Globals = []api.Global{global(api.I32, 0x41, 1<<32-1, 0), global(api.I64, 0x42, 1<<64-1, 0)}
	m.Elems = append(m.Elems, api.Elem{Offset: at(0), Funcs: []int{0, 2}})
	s = made(t, m)
	slot(t, s, 0, 1<<32-1, true)
	slot(t, s, 1, 1<<64-1, true)
	elem(t, s, 0, 0, true)
	elem(t, s, 1, 2, true)
	elem(t, s, 2, 5, true)
}

// P17.1: segments that don't fit; tables ahead of memories; all in order.
func TestSegments(t *testing.T) {
	two := []byte{1, 2}
	rows := []struct {
		elems []api.Elem
		datas []api.Data
		e     api.Errno
	}{
		{[]api.Elem{{Offset: at(2), Funcs: []int{4, 5}}}, nil, api.ErrElem}, {[]api.Elem{{Offset: at(3)}}, nil, 0}, {[]api.Elem{{Offset: at(4)}}, nil, api.ErrElem}, {[]api.Elem{{Offset: at(0), Funcs: []int{1, 2, 3}}}, nil, 0}, {[]api.Elem{{Offset: at(0), Funcs: []int{1, 2, 3, 4}}}, nil, api.ErrElem},
		{[]api.Elem{{Offset: at(1<<32 - 1), Funcs: []int{0, 0}}}, nil, api.ErrElem}, {[]api.Elem{{Offset: at(1<<32 - 1)}}, nil, api.ErrElem}, {[]api.Elem{{Offset: at(0)}, {Offset: at(3), Funcs: []int{1}}}, nil, api.ErrElem},
		{nil, []api.Data{{Offset: at(65535), Bytes: two}}, api.ErrData}, {nil, []api.Data{{Offset: at(65536)}}, 0}, {nil, []api.Data{{Offset: at(65537)}}, api.ErrData}, {nil, []api.Data{{Offset: at(65534), Bytes: two}}, 0}, {nil, []api.Data{{Offset: at(1<<32 - 1), Bytes: two}}, api.ErrData}, {nil, []api.Data{{Offset: at(1<<32 - 1)}}, api.ErrData},
		{[]api.Elem{{Offset: at(4)}}, []api.Data{{Offset: at(65537)}}, api.ErrElem}, {nil, []api.Data{{Offset: at(0)}, {Offset: at(65536), Bytes: two}}, api.ErrData},
	}
	for i, r := range rows {
		m := full()
		m.Elems, m.Datas = r.elems, r.datas
		if s, e := store.New(m); e != r.e || (s == nil) != (e != 0) {
			t.Error(i, s != nil, e, r.e)
		}
	}
}

// P17.1: what Check tells.
func TestChecked(t *testing.T) {
	m := full()
	m.Elems[0].Offset = at(9)
	m.Codes[0].Body = []api.Instr{{Op: 0x41}, end}
	if s, e := store.New(m); s != nil || e != api.ErrValid {
		t.Error(e)
	}
	m.Datas[0].Bytes = make([]byte, 20000)
	if s, e := store.New(m); s != nil || e != api.ErrLong {
		t.Error(e)
	}
	m.Start = -2
	if s, e := store.New(m); s != nil || e != api.ErrArg {
		t.Error(e)
	}
}

// P17.2: what there is none of.
func TestNone(t *testing.T) {
	s := made(t, api.Module{Start: -1})
	if s.Memory() != nil {
		t.Error("a memory")
	}
	elem(t, s, 0, 0, false)
	slot(t, s, 0, 0, false)
	if g, n := s.Place(0); g != 0 || n != 0 {
		t.Error(g, n)
	}
	s = made(t, full())
	for _, i := range []uint32{3, 4, 1 << 31, math.MaxUint32} {
		elem(t, s, i, 0, false)
	}
	if s.Memory() != s.Memory() || s.Memory() == nil {
		t.Error("Memory is a copy")
	}
}

// P17.3
func TestSlots(t *testing.T) {
	s := made(t, full())
	want := [][2]int{{0, 1}, {1, 2}, {3, 1}, {0, 0}}
	for g, w := range want {
		if k, n := s.Place(g); k != w[0] || n != w[1] {
			t.Error(g, k, n)
		}
	}
	for _, k := range []int{-1, 4, math.MinInt, math.MaxInt} {
		slot(t, s, k, 0, false)
		if s.SetSlot(k, 1) {
			t.Error(k)
		}
		if g, n := s.Place(k); g != 0 || n != 0 {
			t.Error(k, g, n)
		}
	}
	for k := range 4 {
		if !s.SetSlot(k, 1<<40+uint64(k)) {
			t.Error(k)
		}
	}
	for k, x := range []uint64{0, 1<<40 + 1, 1<<40 + 2, 1<<40 + 3} {
		slot(t, s, k, x, true)
	}
	s.SetSlot(0, 1<<32+5)
	slot(t, s, 0, 5, true)
}

// P17.4
func TestClone(t *testing.T) {
	s := made(t, full())
	s.SetSlot(3, 11)
	s.Memory().Store(10, 1, 77)
	c := s.Clone()
	slot(t, c, 3, 11, true)
	elem(t, c, 2, 5, true)
	if x, _ := c.Memory().Load(10, 1); x != 77 || !reflect.DeepEqual(c.Module(), s.Module()) || c.Memory() == s.Memory() {
		t.Error("Clone differs")
	}
	c.SetSlot(0, 1<<32+8)
	c.Memory().Store(10, 1, 78)
	c.Memory().Grow(1)
	s.SetSlot(1, 5)
	slot(t, s, 0, 7, true)
	slot(t, c, 0, 8, true)
	slot(t, c, 1, 1, true)
	if x, _ := s.Memory().Load(10, 1); x != 77 || s.Memory().Pages() != 1 {
		t.Error("Clone shares")
	}
	none := made(t, api.Module{Start: -1}).Clone()
	if none.Memory() != nil {
		t.Error("a memory")
	}
}

// P17.4: a nil store.
func TestNil(t *testing.T) {
	var s *store.Store
	if s.Clone() != nil || s.Memory() != nil || !reflect.DeepEqual(s.Module(), api.Module{}) || s.SetSlot(0, 1) {
		t.Error("nil")
	}
	slot(t, s, 0, 0, false)
	elem(t, s, 0, 0, false)
	if k, n := s.Place(0); k != 0 || n != 0 {
		t.Error(k, n)
	}
}

// P17.2, P17.4: the module is a copy, there and back.
func TestMemory(t *testing.T) {
	m := full()
	s := made(t, m)
	if !reflect.DeepEqual(m, full()) || !reflect.DeepEqual(s.Module(), full()) {
		t.Error("Module differs")
	}
	m.Codes[0].Body[0].Op, m.Datas[0].Bytes[0], m.Elems[0].Funcs[0], m.Globals[0].Init[0].Lo = 1, 1, 1, 1
	one := s.Module()
	one.Codes[1].Body[0].Op, one.Types[0].In, one.Globals[1].Init[0].Lo = 2, []int{1}, 55
	if !reflect.DeepEqual(s.Module(), full()) {
		t.Error("memory is shared")
	}
	slot(t, s, 1, 1, true)
	elem(t, s, 1, 4, true)
}
