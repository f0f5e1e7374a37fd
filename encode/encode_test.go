package encode_test

import (
	"bytes"
	"encoding/hex"
	"math"
	"reflect"
	"slices"
	"strings"
	"testing"

	"plait/api"
	"plait/encode"
	"plait/module"
)

var (
	end  = api.Instr{Op: 0x0b}
	zero = api.Instr{Op: 0x41}
	at0  = []api.Instr{zero, end}
)

func unhex(s string) []byte {
	b, err := hex.DecodeString(strings.ReplaceAll(s, " ", ""))
	if err != nil {
		panic(err)
	}
	return b
}

func whole(s string) []byte {
	return append([]byte("\x00asm\x01\x00\x00\x00"), unhex(s)...)
}

// full is a module that has all sections, made anew each time.
func full() api.Module {
	return api.Module{
		Types:   []api.Sig{{}, {In: []int{api.I32, api.V128}, Out: []int{api.I64}}},
		Imports: []api.Import{{Module: "env", Name: "f", Type: 1}, {Module: "", Name: "é", Type: 255}},
		Funcs:   []int{0, 129},
		Tables:  []api.Limits{{Min: 5, Max: -1}, {Min: 1, Max: 3}},
		Mems:    []api.Limits{{Min: 16, Max: -1}, {Min: 0, Max: 1<<32 - 1}},
		Globals: []api.Global{{Type: api.V128, Mut: true, Init: []api.Instr{{Op: 0x41, Lo: 11}, end}}, {Type: api.I64, Init: []api.Instr{end}}},
		Exports: []api.Export{{Name: "a"}, {Name: "", Kind: 3, Index: 5}, {Name: "m", Kind: 2}},
		Start:   7,
		Elems:   []api.Elem{{Offset: []api.Instr{zero, end}, Funcs: []int{1, 256}}, {Offset: []api.Instr{end}}},
		Codes:   []api.Code{{Body: []api.Instr{end}}, {Locals: []int{api.I64, api.I64, api.I32, api.I64}, Body: []api.Instr{zero, {Op: 0x0e, L: []int{0}}, end}}},
		Datas:   []api.Data{{Offset: []api.Instr{zero, end}, Bytes: []byte{1, 2, 255}}, {Offset: []api.Instr{end}}},
	}
}

const fullBytes = "01 0a 02 600000 60027f7b017e" + "02 10 02 03656e76 0166 00 01 00 02c3a9 00 ff01" + "03 04 02 00 8101" + "04 08 02 70 00 05 70 01 01 03" +
	"05 0a 02 00 10 01 00 ffffffff0f" + "06 09 02 7b 01 410b0b 7e 00 0b" + "07 0c 03 0161 00 00 00 03 05 016d 02 00" + "08 01 07" +
	"09 0c 02 00 41000b 02 01 8002 00 0b 00" + "0a 13 02 02 00 0b 0e 03 027e 017f 017e 4100 0e 01 00 00 0b" + "0b 0c 02 00 41000b 03 0102ff 00 0b 00"

func clean(m api.Module) api.Module {
	for i := range m.Types {
		m.Types[i].In, m.Types[i].Out = append([]int(nil), m.Types[i].In...), append([]int(nil), m.Types[i].Out...)
	}
	for i := range m.Elems {
		m.Elems[i].Funcs = append([]int(nil), m.Elems[i].Funcs...)
	}
	for i := range m.Datas {
		m.Datas[i].Bytes = append([]byte(nil), m.Datas[i].Bytes...)
	}
	for i := range m.Codes {
		m.Codes[i].Locals = append([]int(nil), m.Codes[i].Locals...)
	}
	return m
}

// P14.1, P14.2
func TestFull(t *testing.T) {
	b, e := encode.Encode(full())
	if e != 0 || !bytes.Equal(b, whole(fullBytes)) {
		t.Errorf("%d\n% x\n% x", e, b, whole(fullBytes))
	}
	m, e := module.Decode(b)
	if e != 0 || !reflect.DeepEqual(clean(m), full()) {
		t.Error(m, e)
	}
}

// P14.1: one thing that can't be, and all else as it may.
func TestCantBe(t *testing.T) {
	long := strings.Repeat("x", 200)
	rows := map[string]func(*api.Module){
		"start -2": func(m *api.Module) { m.Start = -2 }, "start 2^32": func(m *api.Module) { m.Start = 1 << 32 }, "start least": func(m *api.Module) { m.Start = math.MinInt },
		"a type in": func(m *api.Module) { m.Types[1].In[0] = 0x7d }, "a type out": func(m *api.Module) { m.Types[1].Out[0] = -1 }, "a type above a byte": func(m *api.Module) { m.Types[1].Out[0] = 0x17f },
		"arity in": func(m *api.Module) { m.Types[0].In = slices.Repeat([]int{api.I32}, 33) }, "arity out": func(m *api.Module) { m.Types[0].Out = slices.Repeat([]int{api.I32}, 33) },
		"types": func(m *api.Module) { m.Types = make([]api.Sig, 257) }, "import's type": func(m *api.Module) { m.Imports[0].Type = -1 }, "import's great type": func(m *api.Module) { m.Imports[0].Type = 1 << 32 },
		"import's module": func(m *api.Module) { m.Imports[0].Module = "\xff" }, "import's name": func(m *api.Module) { m.Imports[0].Name = long + "\xc3" }, "imports": func(m *api.Module) { m.Imports = make([]api.Import, 513) },
		"func": func(m *api.Module) { m.Funcs[0] = -1 }, "great func": func(m *api.Module) { m.Funcs[1] = 1 << 32 }, "few funcs": func(m *api.Module) { m.Funcs = m.Funcs[:1] }, "no funcs": func(m *api.Module) { m.Funcs = nil }, "many funcs": func(m *api.Module) { m.Funcs = append(m.Funcs, 0) },
		"few codes": func(m *api.Module) { m.Codes = m.Codes[:1] }, "no codes": func(m *api.Module) { m.Codes = nil }, "513 functions": func(m *api.Module) {
			m.Funcs, m.Codes = make([]int, 513), slices.Repeat([]api.Code{{Body: []api.Instr{end}}}, 513)
		},
		"table's least": func(m *api.Module) { m.Tables[0].Min = 1025 }, "table below": func(m *api.Module) { m.Tables[0].Min = -1 }, "table's most": func(m *api.Module) { m.Tables[1].Max = -2 }, "table's great most": func(m *api.Module) { m.Tables[1].Max = 1 << 32 }, "tables": func(m *api.Module) { m.Tables = make([]api.Limits, 513) },
		"memory's least": func(m *api.Module) { m.Mems[0].Min = 17 }, "memory below": func(m *api.Module) { m.Mems[1].Min = -1 }, "memory's most": func(m *api.Module) { m.Mems[1].Max = 1 << 32 }, "mems": func(m *api.Module) { m.Mems = make([]api.Limits, 513) },
		"global's type": func(m *api.Module) { m.Globals[0].Type = 0 }, "global's init": func(m *api.Module) { m.Globals[0].Init = nil }, "global's fields": func(m *api.Module) { m.Globals[0].Init[0].Hi = 1 }, "globals": func(m *api.Module) { m.Globals = slices.Repeat([]api.Global{m.Globals[1]}, 513) },
		"export's kind": func(m *api.Module) { m.Exports[0].Kind = 4 }, "export's low kind": func(m *api.Module) { m.Exports[0].Kind = -1 }, "kind above a byte": func(m *api.Module) { m.Exports[0].Kind = 256 }, "export's index": func(m *api.Module) { m.Exports[2].Index = -1 }, "export's name": func(m *api.Module) { m.Exports[0].Name = "\xed\xa0\x80" }, "exports": func(m *api.Module) { m.Exports = make([]api.Export, 513) },
		"elem's offset": func(m *api.Module) { m.Elems[0].Offset = at0[:1] }, "elem's func": func(m *api.Module) { m.Elems[0].Funcs[1] = -1 }, "elem's great func": func(m *api.Module) { m.Elems[0].Funcs[1] = 1 << 32 }, "elem's funcs": func(m *api.Module) { m.Elems[0].Funcs = make([]int, 1025) }, "elems": func(m *api.Module) { m.Elems = slices.Repeat([]api.Elem{{Offset: at0}}, 513) },
		"local": func(m *api.Module) { m.Codes[1].Locals[2] = 0x7c }, "locals": func(m *api.Module) { m.Codes[0].Locals = slices.Repeat([]int{api.I32}, 513) }, "body": func(m *api.Module) { m.Codes[0].Body = []api.Instr{zero} }, "no body": func(m *api.Module) { m.Codes[0].Body = nil },
		"data's offset": func(m *api.Module) { m.Datas[1].Offset = nil }, "datas": func(m *api.Module) { m.Datas = slices.Repeat([]api.Data{{Offset: at0}}, 513) },
	}
	for what, change := range rows {
		m := full()
		change(&m)
		if b, e := encode.Encode(m); b != nil || e != api.ErrArg {
			t.Errorf("%s: % x, %d", what, b, e)
		}
		m.Datas = append(m.Datas, api.Data{Offset: at0, Bytes: make([]byte, 20000)})
		if b, e := encode.Encode(m); b != nil || e != api.ErrArg {
			t.Errorf("%s, and long: % x, %d", what, b, e)
		}
	}
}

// P14.1, P14.2: what stands at its limit can be.
func TestLimits(t *testing.T) {
	rows := map[string]api.Module{
		"types": {Start: -1, Types: make([]api.Sig, 256)}, "arity": {Start: -1, Types: []api.Sig{{In: slices.Repeat([]int{api.V128}, 32), Out: slices.Repeat([]int{api.I64}, 32)}}},
		"imports": {Start: -1, Imports: make([]api.Import, 512)}, "functions": {Start: -1, Funcs: make([]int, 512), Codes: slices.Repeat([]api.Code{{Body: []api.Instr{end}}}, 512)},
		"tables": {Start: -1, Tables: slices.Repeat([]api.Limits{{Min: 1024, Max: 1<<32 - 1}}, 512)}, "mems": {Start: -1, Mems: slices.Repeat([]api.Limits{{Min: 16, Max: 0}}, 512)},
		"globals": {Start: -1, Globals: slices.Repeat([]api.Global{{Type: api.I32, Init: []api.Instr{end}}}, 512)}, "exports": {Start: -1, Exports: make([]api.Export, 512)},
		"elems": {Start: -1, Elems: slices.Repeat([]api.Elem{{Offset: at0}}, 512)}, "elem": {Start: -1, Elems: []api.Elem{{Offset: at0, Funcs: make([]int, 1024)}}},
		"locals": {Start: -1, Funcs: []int{0}, Codes: []api.Code{{Locals: slices.Repeat([]int{api.V128}, 512), Body: []api.Instr{end}}}}, "datas": {Start: -1, Datas: slices.Repeat([]api.Data{{Offset: at0}}, 512)},
		"start": {Start: 1<<32 - 1}, "start 0": {Start: 0}, "nothing": {Start: -1}, "empty lists": {Start: -1, Types: []api.Sig{}, Datas: []api.Data{}},
	}
	for what, m := range rows {
		b, e := encode.Encode(m)
		if e != 0 {
			t.Errorf("%s: %d", what, e)
			continue
		}
		got, e := module.Decode(b)
		if e != 0 {
			t.Errorf("%s: %d", what, e)
		}
		again, e := encode.Encode(got)
		if e != 0 || !bytes.Equal(again, b) {
			t.Errorf("%s: % x, %d", what, again, e)
		}
	}
	if b, e := encode.Encode(rows["empty lists"]); e != 0 || !bytes.Equal(b, whole("")) {
		t.Error(b, e)
	}
	if b, e := encode.Encode(rows["locals"]); e != 0 || !bytes.Equal(b, whole("03020100 0a 07 01 05 01 80047b 0b")) {
		t.Errorf("% x %d", b, e)
	}
}

// P14.1: bytes up to MaxModule, and no more.
func TestLong(t *testing.T) {
	of := func(n int) api.Module {
		return api.Module{Start: -1, Datas: []api.Data{{Offset: at0, Bytes: make([]byte, n)}}}
	}
	b, _ := encode.Encode(of(16000))
	most := 16000 + api.MaxModule - len(b)
	for n, want := range map[int]api.Errno{most: 0, most + 1: api.ErrLong, 16384: api.ErrLong, 1 << 20: api.ErrLong} {
		b, e := encode.Encode(of(n))
		if e != want || e != 0 && b != nil || e == 0 && len(b) != api.MaxModule {
			t.Error(n, len(b), e)
		}
	}
}

// P14.2: what is read from longer bytes is written in no more, and is the same.
func TestShorter(t *testing.T) {
	rows := [][2]string{
		{"01 07 8100 60 8000 8000", "01 04 01 60 00 00"},
		{"01 8400 01600000 00020161 0302 0100 0a08 01 06 02017e017e 0b", "010401600000 03020100 0a06 01 04 01027e 0b"},
		{"01 01 00 02 01 00 03 01 00 0a 01 00", ""}, {"05 07 01 01 8100 ffff03", "05 06 01 01 01 ffff03"}, {"08 02 8500", "08 01 05"},
		{"03020100 0a06 01 04 01007f 0b", "03020100 0a04 01 02 00 0b"},
	}
	for _, r := range rows {
		m, e := module.Decode(whole(r[0]))
		if e != 0 {
			t.Error(r[0], e)
			continue
		}
		b, e := encode.Encode(m)
		if e != 0 || !bytes.Equal(b, whole(r[1])) || len(b) > len(whole(r[0])) {
			t.Errorf("%s: % x, %d", r[0], b, e)
		}
		again, e := module.Decode(b)
		if e != 0 || !reflect.DeepEqual(clean(again), clean(m)) && r[1] != "" {
			t.Error(r[0], again, m)
		}
	}
}

// P14.1: the document's examples.
func TestExamples(t *testing.T) {
	m := api.Module{Start: -1, Types: []api.Sig{{}}, Funcs: []int{0}, Codes: []api.Code{{Body: []api.Instr{end}}}}
	if b, e := encode.Encode(m); e != 0 || !bytes.Equal(b, whole("01 04 01 60 00 00 03 02 01 00 0a 04 01 02 00 0b")) {
		t.Errorf("% x %d", b, e)
	}
	m.Codes[0].Locals = []int{api.I64, api.I64, api.I32}
	if b, _ := encode.Encode(m); !bytes.HasSuffix(b, unhex("0a 08 01 06 02 027e 017f 0b")) {
		t.Errorf("% x", b)
	}
	if b, e := encode.Encode(api.Module{}); e != 0 || !bytes.Equal(b, whole("08 01 00")) {
		t.Errorf("% x %d", b, e)
	}
}

// P14.3
func TestMemory(t *testing.T) {
	m := full()
	one, _ := encode.Encode(m)
	two, _ := encode.Encode(m)
	for i := range one {
		one[i] = 0xee
	}
	if !bytes.Equal(two, whole(fullBytes)) || !reflect.DeepEqual(m, full()) {
		t.Error("memory is shared")
	}
}
