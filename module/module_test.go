package module_test

import (
	"bytes"
	"encoding/hex"
	"reflect"
	"slices"
	"strings"
	"testing"

	"plait/api"
	"plait/leb"
	"plait/module"
)

var magic = []byte("\x00asm\x01\x00\x00\x00")

func unhex(s string) []byte {
	b, err := hex.DecodeString(strings.ReplaceAll(s, " ", ""))
	if err != nil {
		panic(err)
	}
	return b
}

// sec is a section: its number, its size, its contents.
func sec(id byte, contents ...[]byte) []byte {
	c := slices.Concat(contents...)
	return slices.Concat([]byte{id}, leb.PutU(uint64(len(c))), c)
}

// row is a row of n things that are alike.
func row(n int, thing []byte) []byte {
	return append(leb.PutU(uint64(n)), bytes.Repeat(thing, n)...)
}

func whole(sections ...[]byte) []byte {
	return slices.Concat(magic, slices.Concat(sections...))
}

// full is a module that has all sections, and what they say.
func full() ([][]byte, api.Module) {
	end, zero := api.Instr{Op: 0x0b}, api.Instr{Op: 0x41}
	sections := [][]byte{
		sec(1, unhex("03 600000 60027f7b017e 60017e027f7b")),
		sec(2, unhex("02 03656e76 0166 00 01 00 02c3a9 00 ff01")),
		sec(3, unhex("02 00 8101")),
		sec(4, unhex("02 70 00 05 70 01 01 03")),
		sec(5, unhex("02 00 10 01 00 ffffffff0f")),
		sec(6, unhex("02 7b 01 410b 0b 7e 00 0b")),
		sec(7, unhex("03 0161 00 00 00 03 05 016d 02 808000")),
		sec(8, unhex("07")),
		sec(9, unhex("02 00 41000b 02 01 8002 8000 0b 00")),
		sec(10, unhex("02 02 00 0b 0b 03 027e 007f 017e 4100 1a 0b")),
		sec(11, unhex("02 00 41000b 03 0102ff 00 0b 00")),
	}
	m := api.Module{
		Types:   []api.Sig{{}, {In: []int{api.I32, api.V128}, Out: []int{api.I64}}, {In: []int{api.I64}, Out: []int{api.I32, api.V128}}},
		Imports: []api.Import{{Module: "env", Name: "f", Type: 1}, {Module: "", Name: "é", Type: 255}},
		Funcs:   []int{0, 129},
		Tables:  []api.Limits{{Min: 5, Max: -1}, {Min: 1, Max: 3}},
		Mems:    []api.Limits{{Min: 16, Max: -1}, {Min: 0, Max: 1<<32 - 1}},
		Globals: []api.Global{{Type: api.V128, Mut: true, Init: []api.Instr{{Op: 0x41, Lo: 11}, end}}, {Type: api.I64, Init: []api.Instr{end}}},
		Exports: []api.Export{{Name: "a", Kind: 0, Index: 0}, {Name: "", Kind: 3, Index: 5}, {Name: "m", Kind: 2, Index: 0}},
		Start:   7,
		Elems:   []api.Elem{{Offset: []api.Instr{zero, end}, Funcs: []int{1, 256}}, {Offset: []api.Instr{end}}},
		Codes:   []api.Code{{Body: []api.Instr{end}}, {Locals: []int{api.I64, api.I64, api.I64}, Body: []api.Instr{zero, {Op: 0x1a}, end}}},
		Datas:   []api.Data{{Offset: []api.Instr{zero, end}, Bytes: []byte{1, 2, 255}}, {Offset: []api.Instr{end}}},
	}
	return sections, m
}

func check(t *testing.T, what string, b []byte, want api.Errno) {
	t.Helper()
	m, e := module.Decode(b)
	if e != want || e != 0 && !reflect.DeepEqual(m, api.Module{}) {
		t.Errorf("%s: %d, want %d: %v", what, e, want, m)
	}
}

// normal gives a module whose empty lists are nil.
func normal(m api.Module) api.Module {
	for i := range m.Types {
		m.Types[i].In, m.Types[i].Out = slices.Clip(append([]int(nil), m.Types[i].In...)), append([]int(nil), m.Types[i].Out...)
	}
	for i := range m.Elems {
		m.Elems[i].Funcs = append([]int(nil), m.Elems[i].Funcs...)
	}
	for i := range m.Datas {
		m.Datas[i].Bytes = append([]byte(nil), m.Datas[i].Bytes...)
	}
	return m
}

// P13.1, P13.2: all sections, and what they say.
func TestFull(t *testing.T) {
	sections, want := full()
	b := whole(sections...)
	m, e := module.Decode(b)
	if e != 0 || !reflect.DeepEqual(normal(m), want) {
		t.Fatalf("%d\n%v\n%v", e, m, want)
	}
	for id := range sections {
		without := slices.Delete(slices.Clone(sections), id, id+1)
		want := api.OK
		if id == 2 || id == 9 {
			want = api.ErrForm // other numbers of functions and bodies
		}
		check(t, "without "+hex.EncodeToString(sections[id]), whole(without...), want)
		twice := slices.Insert(slices.Clone(sections), id, sections[id])
		check(t, "twice", whole(twice...), api.ErrForm)
		if id > 0 {
			swapped := slices.Clone(sections)
			swapped[id], swapped[id-1] = swapped[id-1], swapped[id]
			check(t, "swapped", whole(swapped...), api.ErrForm)
		}
		for _, said := range []string{"00020161", "0000", "000201ff", "00020261", "0003026162", "000180"} {
			wanted := map[string]api.Errno{"00020161": 0, "0003026162": 0}[said]
			if said != "00020161" && said != "0003026162" {
				wanted = api.ErrForm
			}
			check(t, "custom "+said, whole(slices.Insert(slices.Clone(sections), id, unhex(said))...), wanted)
		}
	}
	check(t, "custom behind", append(whole(sections...), unhex("00020161 00050161ffffff")...), 0)
}

// P13.1: bytes that are missing, or that are left.
func TestSizes(t *testing.T) {
	sections, _ := full()
	b := whole(sections...)
	first := len(magic) + len(sections[0])
	// Without functions, or with all of them and their bodies, a beginning is a module too.
	ends := []int{len(magic), first, first + len(sections[1]), len(b) - len(sections[10])}
	for n := range len(b) {
		want := api.ErrForm
		if slices.Contains(ends, n) {
			want = api.OK
		}
		check(t, "a beginning", b[:n:n], want)
	}
	for i, s := range sections {
		_, at, _ := leb.U(s, 1, 32)
		id, contents := s[0], s[at:]
		longer := slices.Clone(sections)
		longer[i] = sec(id, contents, []byte{0})
		check(t, "longer", whole(longer...), api.ErrForm)
		shorter := slices.Clone(sections)
		shorter[i] = sec(id, contents[:len(contents)-1])
		check(t, "shorter", whole(shorter...), api.ErrForm)
	}
	for i := range magic {
		other := whole(sections...)
		other[i]++
		check(t, "head", other, api.ErrForm)
	}
	check(t, "nothing", nil, api.ErrForm)
	for id := 12; id < 256; id++ {
		check(t, "id", whole([]byte{byte(id), 1, 0}), api.ErrForm)
	}
}

// P13.1: one section each, and what is told of it.
func TestForms(t *testing.T) {
	rows := []struct {
		id       byte
		contents string
		e        api.Errno
	}{
		{1, "01600000", 0}, {1, "01 61 0000", api.ErrForm}, {1, "00", 0}, {1, "8000", 0}, {1, "01 60017d00", api.ErrFloat}, {1, "01 60 00 017c", api.ErrFloat}, {1, "01 60017a00", api.ErrForm}, {1, "01 60017000", api.ErrForm}, {1, "0160 017b 017b", 0}, {1, "0160 8100 7b 8000", 0}, {1, "01 60 00", api.ErrForm}, {1, "808080808000", api.ErrForm}, {1, "ffffffff1f", api.ErrForm},
		{2, "01 00 00 00 00", 0}, {2, "01 00 00 01 00", api.ErrForm}, {2, "01 00 00 02 00 00", api.ErrForm}, {2, "01 01ff 00 00 00", api.ErrForm}, {2, "01 00 01c3 00 00", api.ErrForm}, {2, "01 0141 02c3a9 00 05", 0}, {2, "01 00 05 41", api.ErrForm},
		{4, "01 70 00 00", 0}, {4, "01 6f 00 00", api.ErrForm}, {4, "01 70 02 00 00", api.ErrForm}, {4, "01 70 01 05 01", 0}, {4, "01 70 01 05", api.ErrForm}, {4, "01 70 00 8008", 0}, {4, "01 70 00 8108", api.ErrMany}, {4, "01 70 01 8108", api.ErrMany}, {4, "01 70 02 8108", api.ErrForm}, {4, "01 70 01 00 ffffffff0f", 0},
		{5, "01 00 10", 0}, {5, "01 00 11", api.ErrMany}, {5, "01 01 11", api.ErrMany}, {5, "01 03 11", api.ErrForm}, {5, "01 01 10 00", 0}, {5, "01 00", api.ErrForm},
		{6, "01 7f 00 41000b", 0}, {6, "01 7f 02 41000b", api.ErrForm}, {6, "01 7d 00 43", api.ErrFloat}, {6, "01 7f 00 43", api.ErrFloat}, {6, "01 7a 00 41000b", api.ErrForm}, {6, "01 7f 00 4100", api.ErrForm}, {6, "01 7f 01 fc00", api.ErrFloat},
		{7, "01 0161 03 00", 0}, {7, "01 0161 04 00", api.ErrForm}, {7, "01 01ff 00 00", api.ErrForm}, {7, "02 0161 00 00 0161 00 00", 0}, {7, "01 0161 00 ffffffff1f", api.ErrForm},
		{8, "05", 0}, {8, "", api.ErrForm}, {8, "0505", api.ErrForm}, {8, "ffffffff0f", 0},
		{9, "01 00 0b 00", 0}, {9, "01 8000 0b 00", 0}, {9, "01 01 0b 00", api.ErrForm}, {9, "01 02 00 0b 00", api.ErrForm}, {9, "01 00 0b 8108", api.ErrMany}, {9, "01 00 43", api.ErrFloat},
		{11, "01 00 0b 00", 0}, {11, "01 8000 0b 0105", 0}, {11, "01 01 00", api.ErrForm}, {11, "01 00 0b 0205", api.ErrForm}, {11, "01 00 0b ffffffff0f", api.ErrForm}, {11, "01 00 44", api.ErrFloat},
	}
	for _, r := range rows {
		check(t, r.contents, whole(sec(r.id, unhex(r.contents))), r.e)
	}
	bodies := []struct {
		body string
		e    api.Errno
	}{
		{"02 00 0b", 0}, {"01 0b", api.ErrForm}, {"03 00 0b 0b", api.ErrForm}, {"04 01 01 7d 0b", api.ErrFloat}, {"04 01 01 7a 0b", api.ErrForm}, {"05 01 8004 7f 0b", 0}, {"05 01 8104 7f 0b", api.ErrMany}, {"05 01 8104 7d 0b", api.ErrMany},
		{"0a 03 8002 7f 8002 7e 00 7b 0b", 0}, {"0a 03 8002 7f 8002 7e 01 7b 0b", api.ErrMany}, {"0a 02 017f ffffffff0f 7e 0b", api.ErrMany}, {"05 01 8200 7e 0b", 0}, {"04 00 43 00 0b", api.ErrFloat}, {"03 00 0240", api.ErrForm}, {"02 0b", api.ErrForm}, {"05 00 0b", api.ErrForm},
	}
	for _, r := range bodies {
		check(t, r.body, whole(sec(1, unhex("01600000")), sec(3, unhex("0100")), sec(10, unhex("01"), unhex(r.body))), r.e)
	}
}

// P13.1: rows at their limits, and above them as soon as their number is read.
func TestLimits(t *testing.T) {
	one := []struct {
		id    byte
		thing string
		most  int
	}{
		{1, "600000", 256}, {2, "00000000", 512}, {4, "700000", 512}, {5, "0000", 512}, {6, "7f000b", 512}, {7, "000000", 512}, {9, "000b00", 512}, {11, "000b00", 512},
	}
	for _, r := range one {
		check(t, r.thing, whole(sec(r.id, row(r.most, unhex(r.thing)))), 0)
		check(t, r.thing, whole(sec(r.id, row(r.most+1, unhex(r.thing)))), api.ErrMany)
		check(t, r.thing, whole(sec(r.id, leb.PutU(uint64(r.most+1)))), api.ErrMany)
		check(t, r.thing, whole(sec(r.id, leb.PutU(1<<32-1))), api.ErrMany)
		check(t, r.thing, whole(sec(r.id, leb.PutU(uint64(r.most)))), api.ErrForm)
	}
	body := unhex("02000b")
	check(t, "bodies", whole(sec(3, row(512, []byte{0})), sec(10, row(512, body))), 0)
	check(t, "functions", whole(sec(3, row(513, []byte{0})), sec(10, row(513, body))), api.ErrMany)
	check(t, "bodies", whole(sec(3, row(512, []byte{0})), sec(10, row(513, body))), api.ErrMany)
	check(t, "bodies", whole(sec(10, leb.PutU(513))), api.ErrMany)
	for most, want := range map[int]api.Errno{32: 0, 33: api.ErrMany} {
		check(t, "parameters", whole(sec(1, unhex("0160"), row(most, []byte{0x7b}), []byte{0})), want)
		check(t, "results", whole(sec(1, unhex("016000"), row(most, []byte{0x7b}))), want)
	}
	for most, want := range map[int]api.Errno{1024: 0, 1025: api.ErrMany} {
		check(t, "a segment", whole(sec(9, unhex("01000b"), row(most, []byte{0}))), want)
	}
	deep := func(n int) []byte {
		b := slices.Concat([]byte{0}, bytes.Repeat([]byte{2, 0x40}, n), bytes.Repeat([]byte{0x0b}, n+1))
		return whole(sec(3, unhex("0100")), sec(10, []byte{1}, leb.PutU(uint64(len(b))), b))
	}
	check(t, "blocks", deep(128), 0)
	check(t, "blocks", deep(129), api.ErrMany)
	long := whole(sec(0, []byte{0}, make([]byte, 16384)))
	for _, n := range []int{16384, 16385} {
		contents := n - len(magic) - 1 - 3
		b := slices.Concat(magic, []byte{0, byte(contents&127 | 128), byte(contents>>7&127 | 128), byte(contents >> 14)}, make([]byte, contents))
		check(t, "long", b, map[int]api.Errno{16384: 0, 16385: api.ErrLong}[n])
	}
	check(t, "long", long, api.ErrLong)
	check(t, "long and no module", make([]byte, 16385), api.ErrLong)
	check(t, "no module", make([]byte, 16384), api.ErrForm)
}

// P13.1: the first that is met is told.
func TestOrder(t *testing.T) {
	float, form, many := sec(1, unhex("0160017d00")), sec(1, unhex("0161")), sec(5, unhex("010011"))
	rows := []struct {
		b []byte
		e api.Errno
	}{
		{whole(float, many), api.ErrFloat}, {whole(form, many), api.ErrForm}, {whole(sec(3, unhex("0100")), many), api.ErrMany}, {whole(many, float), api.ErrMany},
		{whole(sec(3, unhex("0100")), sec(10, unhex("00")), sec(11, unhex("010043"))), api.ErrFloat},
		{whole(sec(3, unhex("0100")), sec(1, unhex("0160017d00"))), api.ErrForm}, {whole(sec(3, unhex("0100")), []byte{4, 9}, unhex("01 70 00 8108")), api.ErrForm},
		{whole(unhex("01 05 01 60 017d")), api.ErrForm}, {whole(sec(3, unhex("0100")), sec(10, unhex("01 05 00 43 0b"))), api.ErrForm},
		{whole(sec(1, unhex("02 60017d00 61"))), api.ErrFloat}, {whole(sec(1, unhex("02 6000218181"))), api.ErrMany}, {whole(sec(6, unhex("01 7f 05 43"))), api.ErrForm},
	}
	for i, r := range rows {
		check(t, hex.EncodeToString([]byte{byte(i)}), r.b, r.e)
	}
}

// P13.1, P13.2: the document's examples.
func TestExamples(t *testing.T) {
	m, e := module.Decode(magic)
	if e != 0 || !reflect.DeepEqual(m, api.Module{Start: -1}) {
		t.Error(m, e)
	}
	rows := []struct {
		b string
		e api.Errno
	}{
		{"01 04 01 60 00 00", 0}, {"01 05 01 60 00 00", api.ErrForm}, {"03 02 01 00", api.ErrForm}, {"01 04 01 60 00 00 03 02 01 00 0a 04 01 02 00 0b", 0}, {"01 05 01 60 01 7d 00", api.ErrFloat}, {"01 05 01 60 01 7a 00", api.ErrForm},
		{"03 01 00 02 01 00", api.ErrForm}, {"05 03 01 00 11", api.ErrMany}, {"0c 01 00", api.ErrForm}, {"00 02 01 61", 0}, {"00 02 01 ff", api.ErrForm},
	}
	for _, r := range rows {
		check(t, r.b, whole(unhex(r.b)), r.e)
	}
}

// P13.3
func TestMemory(t *testing.T) {
	sections, want := full()
	b := whole(sections...)
	one, _ := module.Decode(b)
	two, _ := module.Decode(b)
	for i := range b {
		b[i] = 0xee
	}
	one.Types[1].In[0], one.Datas[0].Bytes[0], one.Codes[1].Body[0].Op, one.Codes[1].Locals[0], one.Exports[0].Name = 1, 77, 5, 6, "z"
	if !reflect.DeepEqual(normal(two), want) {
		t.Error("answers share memory")
	}
}
