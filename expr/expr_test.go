package expr_test

import (
	"bytes"
	"encoding/hex"
	"math"
	"reflect"
	"slices"
	"strings"
	"testing"

	"plait/api"
	"plait/expr"
	"plait/instr"
	"plait/leb"
)

const top = 1<<32 - 1

func unhex(s string) []byte {
	b, err := hex.DecodeString(strings.ReplaceAll(s, " ", ""))
	if err != nil {
		panic(err)
	}
	return b
}

// same tells whether two rows of instructions are alike, nil lists as empty.
func same(a, b []api.Instr) bool {
	return slices.EqualFunc(a, b, func(x, y api.Instr) bool {
		l, k := x.L, y.L
		x.L, y.L = nil, nil
		return reflect.DeepEqual(x, y) && slices.Equal(l, k)
	})
}

func head(op int) []byte {
	if op < 0xfd00 {
		return []byte{byte(op)}
	}
	return append([]byte{0xfd}, leb.PutU(uint64(op-0xfd00))...)
}

// piece is an instruction with the bytes behind its opcode.
type piece struct {
	in   api.Instr
	tail []byte
}

// pieces are instructions of an opcode whose fields stand at their ends.
func pieces(op, form int) []piece {
	var ps []piece
	add := func(in api.Instr, tail ...byte) {
		in.Op = op
		ps = append(ps, piece{in, tail})
	}
	switch form {
	case api.FormNone:
		add(api.Instr{})
	case api.FormBlock:
		for _, a := range []int{-64, -1, -2, -5, 0, 1, 63, 64, 8191, 1 << 31, top} {
			add(api.Instr{A: a}, leb.PutS(int64(a))...)
		}
	case api.FormLabel, api.FormIndex:
		for _, a := range []uint64{0, 1, 127, 128, 1 << 31, top} {
			add(api.Instr{A: int(a)}, leb.PutU(a)...)
		}
	case api.FormTable:
		add(api.Instr{}, 0, 0)
		add(api.Instr{L: []int{0, top, 128}, A: 5}, leb.PutU(3, 0, top, 128, 5)...)
		add(api.Instr{L: make([]int, 200), A: top}, append(append(leb.PutU(200), make([]byte, 200)...), leb.PutU(top)...)...)
	case api.FormIndirect, api.FormMem:
		for _, a := range []uint64{0, 4, 128, top} {
			add(api.Instr{A: int(a), B: int(top - a)}, leb.PutU(a, top-a)...)
		}
	case api.FormMemLane:
		for _, lane := range []byte{0, 15, 128, 255} {
			add(api.Instr{A: top, B: 200, Lo: uint64(lane)}, append(leb.PutU(top, 200), lane)...)
		}
	case api.FormI32:
		for _, n := range []int64{0, 63, 64, -1, -64, -65, math.MaxInt32, math.MinInt32} {
			add(api.Instr{Lo: uint64(uint32(n))}, leb.PutS(n)...)
		}
	case api.FormI64:
		for _, n := range []int64{0, 63, 64, -1, -65, math.MaxInt64, math.MinInt64} {
			add(api.Instr{Lo: uint64(n)}, leb.PutS(n)...)
		}
	case api.FormV128, api.FormShuffle:
		add(api.Instr{Lo: 0x0706050403020100, Hi: 0xff0e0d0c0b0a0908}, unhex("000102030405060708090a0b0c0d0eff")...)
	case api.FormLane:
		for _, a := range []byte{0, 1, 127, 128, 255} {
			add(api.Instr{A: int(a)}, a)
		}
	case api.FormZero:
		add(api.Instr{}, 0)
	}
	return ps
}

// closed lays an instruction into an expression that is closed.
func closed(p piece, form int) ([]api.Instr, []byte) {
	code, b := []api.Instr{p.in}, append(head(p.in.Op), p.tail...)
	switch {
	case form == api.FormBlock:
		code, b = append(code, api.Instr{Op: 0x0b}), append(b, 0x0b)
	case p.in.Op == 0x05:
		code = slices.Concat([]api.Instr{{Op: 4, A: -64}}, code, []api.Instr{{Op: 0x0b}})
		b = slices.Concat([]byte{4, 0x40}, b, []byte{0x0b})
	case p.in.Op == 0x0b:
		return code, b
	}
	return append(code, api.Instr{Op: 0x0b}), append(b, 0x0b)
}

// P12.1, P12.2, P12.3: every instruction, there and back.
func TestThereAndBack(t *testing.T) {
	for op := range 0x10000 {
		info, ok := instr.Of(op)
		if !ok {
			continue
		}
		ps := pieces(op, info.Form)
		if len(ps) == 0 {
			t.Fatalf("%x has no form", op)
		}
		for _, p := range ps {
			code, b := closed(p, info.Form)
			got, to, e := expr.Read(slices.Concat([]byte{9, 9}, b, []byte{1, 2}), 2)
			if !same(got, code) || to != 2+len(b) || e != 0 {
				t.Errorf("Read(% x): %v, %d, %d", b, got, to, e)
			}
			w, e := expr.Write(code)
			if !bytes.Equal(w, b) || e != 0 {
				t.Errorf("Write(%v): % x, %d, want % x", code, w, e, b)
			}
			for n := range len(b) {
				if got, to, e := expr.Read(b[:n:n], 0); got != nil || to != 0 || e != api.ErrForm {
					t.Errorf("Read(% x): %v, %d, %d", b[:n], got, to, e)
				}
			}
		}
	}
}

// P12.1: opcodes that are none, and those of floats.
func TestOpcodes(t *testing.T) {
	for n := range 256 {
		want := api.ErrForm
		if _, ok := instr.Of(n); ok || n == 0xfd || n == 0xfc {
			continue
		} else if instr.Float(n) {
			want = api.ErrFloat
		}
		for _, tail := range []string{"", "0b", "00000000 0b"} {
			if code, to, e := expr.Read(append([]byte{byte(n)}, unhex(tail)...), 0); code != nil || to != 0 || e != want {
				t.Errorf("%x: %v %d %d", n, code, to, e)
			}
		}
	}
	for n := range uint64(1 << 17) {
		want := api.ErrForm
		if _, ok := instr.Of(0xfd00 + int(n)); ok && n < 256 {
			continue
		} else if n < 256 && instr.Float(0xfd00+int(n)) {
			want = api.ErrFloat
		}
		if _, _, e := expr.Read(append(append([]byte{0xfd}, leb.PutU(n)...), 0x0b), 0); e != want {
			t.Errorf("fd %x: %d", n, e)
		}
	}
	for n := range uint64(300) {
		want := api.ErrForm
		if n < 8 {
			want = api.ErrFloat
		}
		if _, _, e := expr.Read(append(append([]byte{0xfc}, leb.PutU(n)...), 0, 0, 0x0b), 0); e != want {
			t.Errorf("fc %x: %d", n, e)
		}
	}
}

// P12.1: what is told at bytes that aren't so.
func TestReadErrors(t *testing.T) {
	many := strings.Repeat("0240", 128)
	rows := []struct {
		b string
		e api.Errno
	}{
		{"", api.ErrForm}, {"4105", api.ErrForm}, {"050b", api.ErrForm}, {"0440 05 05 0b 0b", api.ErrForm}, {"0440 05 0b 0b", 0}, {"0240 05 0b 0b", api.ErrForm}, {"0340 05 0b 0b", api.ErrForm},
		{"0440 0240 05 0b 0b 0b", api.ErrForm}, {"0440 0240 0b 05 0b 0b", 0}, {"0440 0440 05 0b 05 0b 0b", 0}, {"0440 05 0440 05 0b 0b 0b", 0}, {"0440 0b 05 0b", api.ErrForm}, {"0440 05 0240 05", api.ErrForm},
		{"43 00000000 0b", api.ErrFloat}, {"43", api.ErrFloat}, {"fc00", api.ErrFloat}, {"fc07", api.ErrFloat}, {"fc08", api.ErrForm}, {"fc", api.ErrForm}, {"fc80", api.ErrForm}, {"fc8780 00", api.ErrFloat}, {"fcffffffff1f", api.ErrForm}, {"fcffffffff0f", api.ErrForm},
		{"027d", api.ErrFloat}, {"027c", api.ErrFloat}, {"037d 0b 0b", api.ErrFloat}, {"0270", api.ErrForm}, {"026f 0b0b", api.ErrForm}, {"027a 0b0b", api.ErrForm}, {"0241 0b0b", api.ErrForm}, {"02ff7f 0b0b", api.ErrForm}, {"02c07f 0b0b", api.ErrForm}, {"02", api.ErrForm},
		{"02 ffffffff0f 0b0b", 0}, {"02 ffffffff1f 0b0b", api.ErrForm}, {"02 ffffffff7f 0b0b", api.ErrForm}, {"02 8080808000 0b0b", 0}, {"02 808080808000 0b0b", api.ErrForm},
		{"fde001 0b", api.ErrFloat}, {"fd9a01 0b", api.ErrForm}, {"fd", api.ErrForm}, {"fd80", api.ErrForm}, {"fd800200 0b", api.ErrForm}, {"fdffffffff1f", api.ErrForm}, {"fdce8000 0b", 0}, {"ff", api.ErrForm}, {"fe00", api.ErrForm}, {"06 0b", api.ErrForm},
		{"3f01 0b", api.ErrForm}, {"3f8000 0b", api.ErrForm}, {"4001 0b", api.ErrForm}, {"3f00 0b", 0}, {"4000 0b", 0}, {"41ffffffff4f 0b", api.ErrForm}, {"41ffffffff7f 0b", 0}, {"20ffffffff1f 0b", api.ErrForm}, {"20808080808000 0b", api.ErrForm},
		{many + "0240", api.ErrMany}, {many + "0340 0b", api.ErrMany}, {many + "027f", api.ErrMany}, {many + "0200", api.ErrMany}, {many + "027d", api.ErrFloat}, {many + "0270", api.ErrForm}, {many + "02", api.ErrForm}, {many + "0280", api.ErrForm},
		{many + strings.Repeat("0b", 129), 0}, {many + "0b 0240" + strings.Repeat("0b", 129), 0}, {many + "0b 0240 0240", api.ErrMany}, {many + strings.Repeat("0b", 128), api.ErrForm},
		{"0effffffff0f 00", api.ErrForm}, {"0e02 00 01 0b", api.ErrForm}, {"0e01 00 01 0b", 0}, {"43 05", api.ErrFloat}, {"05 43", api.ErrForm},
	}
	for _, r := range rows {
		code, to, e := expr.Read(unhex(r.b), 0)
		if e != r.e || e != 0 && (code != nil || to != 0) || e == 0 && to != len(unhex(r.b)) {
			t.Errorf("%s: %v %d %d, want %d", r.b, code, to, e, r.e)
		}
	}
}

// P12.1: places.
func TestPlaces(t *testing.T) {
	b := unhex("0b 41050b 00")
	for at, want := range map[int]api.Errno{-1: api.ErrArg, 6: api.ErrArg, math.MinInt: api.ErrArg, math.MaxInt: api.ErrArg, 5: api.ErrForm, 4: api.ErrForm} {
		if code, to, e := expr.Read(b, at); code != nil || to != 0 || e != want {
			t.Error(at, code, to, e)
		}
	}
	if code, to, e := expr.Read(b, 0); !same(code, []api.Instr{{Op: 0x0b}}) || to != 1 || e != 0 {
		t.Error(code, to, e)
	}
	if code, to, e := expr.Read(b, 1); !same(code, []api.Instr{{Op: 0x41, Lo: 5}, {Op: 0x0b}}) || to != 4 || e != 0 {
		t.Error(code, to, e)
	}
	if _, _, e := expr.Read(nil, 0); e != api.ErrForm {
		t.Error(e)
	}
	if _, _, e := expr.Read(nil, 1); e != api.ErrArg {
		t.Error(e)
	}
}

// P12.3: longer forms are read as the same, and written shorter.
func TestLongForms(t *testing.T) {
	rows := [][2]string{
		{"41 8500 0b", "4105 0b"}, {"42 ff7f 0b", "427f 0b"}, {"20 808000 0b", "2000 0b"}, {"02 8000 0b0b", "0200 0b0b"}, {"02 ff8000 0b0b", "02ff00 0b0b"}, {"0e 8100 8000 8100 0b", "0e 01 00 01 0b"},
		{"11 8100 8000 0b", "110100 0b"}, {"28 8200 ffff00 0b", "2802ff7f 0b"}, {"fd d4 00 8000 8100 05 0b", "fd54 00 01 05 0b"}, {"fd ee8000 0b", "fd6e 0b"}, {"fd ce81 8000 0b", "fdce01 0b"},
	}
	for _, r := range rows {
		code, _, e := expr.Read(unhex(r[0]), 0)
		if e != 0 {
			t.Error(r, e)
		}
		b, e := expr.Write(code)
		if e != 0 || !bytes.Equal(b, unhex(r[1])) {
			t.Errorf("%s: % x", r[0], b)
		}
	}
}

// P12.2: fields of which the form has none, or has less.
func TestWriteFields(t *testing.T) {
	for op := -2; op < 0x10100; op++ {
		info, ok := instr.Of(op)
		bad := []api.Instr{{A: -3}, {A: -65}, {A: top + 1}, {A: math.MinInt}, {A: math.MaxInt}, {A: 256}, {A: 1}, {B: 1}, {B: -1}, {B: top + 1}, {Lo: 1}, {Lo: 256}, {Lo: top + 1}, {Hi: 1}, {L: []int{0}}, {L: []int{-1}}, {L: []int{1, top + 1}}}
		for i, in := range bad {
			in.Op = op
			code, _ := closed(piece{in: in}, info.Form)
			b, e := expr.Write(code)
			if good := ok && goodFields(in, info.Form); good != (e == 0) || !good && (e != api.ErrArg || b != nil) {
				t.Fatalf("%d of %x: % x, %d", i, op, b, e)
			}
		}
	}
}

func goodFields(in api.Instr, form int) bool {
	a := in.A >= 0 && in.A <= top
	z := in
	switch form {
	case api.FormBlock:
		z.A = 0
		return zero(z) && (a || in.A == -64 || in.A == -1 || in.A == -2 || in.A == -5)
	case api.FormLabel, api.FormIndex:
		z.A = 0
		return zero(z) && a
	case api.FormTable:
		z.A, z.L = 0, nil
		for _, l := range in.L {
			a = a && l >= 0 && l <= top
		}
		return zero(z) && a
	case api.FormIndirect, api.FormMem:
		z.A, z.B = 0, 0
		return zero(z) && a && in.B >= 0 && in.B <= top
	case api.FormMemLane:
		z.A, z.B, z.Lo = 0, 0, 0
		return zero(z) && a && in.B >= 0 && in.B <= top && in.Lo < 256
	case api.FormI32:
		z.Lo = 0
		return zero(z) && in.Lo <= top
	case api.FormI64:
		z.Lo = 0
	case api.FormV128, api.FormShuffle:
		z.Lo, z.Hi = 0, 0
	case api.FormLane:
		z.A = 0
		return zero(z) && in.A >= 0 && in.A < 256
	}
	return zero(z)
}

func zero(in api.Instr) bool {
	return in.A == 0 && in.B == 0 && in.Lo == 0 && in.Hi == 0 && len(in.L) == 0
}

// P12.2: blocks, ends and opcodes that can't be.
func TestWriteBlocks(t *testing.T) {
	end, els, if1, block, nop := api.Instr{Op: 0x0b}, api.Instr{Op: 5}, api.Instr{Op: 4, A: -64}, api.Instr{Op: 2, A: -64}, api.Instr{Op: 1}
	deep := func(n int) []api.Instr {
		return append(slices.Repeat([]api.Instr{block}, n), slices.Repeat([]api.Instr{end}, n+1)...)
	}
	good := [][]api.Instr{{end}, {nop, end}, {if1, els, end, end}, {if1, block, end, els, block, end, end, end}, {{Op: 2, A: -1}, end, end}, deep(128), append(slices.Clip(deep(128)[:256]), block, end, end), {{Op: 0x0e, L: []int{}}, end}}
	for i, code := range good {
		b, e := expr.Write(code)
		if e != 0 {
			t.Error(i, e)
		}
		if got, _, e := expr.Read(b, 0); !same(got, code) || e != 0 {
			t.Error(i, got, e)
		}
	}
	bad := [][]api.Instr{nil, {}, {nop}, {end, end}, {end, nop}, {els, end}, {if1, els, els, end, end}, {block, els, end, end}, {if1, block, els, end, end, end}, {block, end}, {if1, els, end}, deep(129),
		{{Op: 0x6a, A: 1}, end}, {{Op: 0x41, Lo: 1 << 32}, end}, {{Op: 0x2a}, end}, {{Op: 0xfd13}, end}, {{Op: -1}, end}, {{Op: 0xfe00}, end}, {nop, {Op: 0x0b, A: 1}}, {{Op: 0xfd}, end}, {{Op: 0xfc}, end}}
	for i, code := range bad {
		if b, e := expr.Write(code); b != nil || e != api.ErrArg {
			t.Errorf("%d: % x, %d", i, b, e)
		}
	}
	if b, _ := expr.Write([]api.Instr{{Op: 2, A: -1}, end, end}); !bytes.Equal(b, unhex("027f0b0b")) {
		t.Errorf("% x", b)
	}
}

// P12.4
func TestMemory(t *testing.T) {
	b := unhex("0e02000100 0b")
	one, _, _ := expr.Read(b, 0)
	two, _, _ := expr.Read(b, 0)
	one[0].L[0] = 9
	if two[0].L[0] != 0 || !bytes.Equal(b, unhex("0e020001000b")) {
		t.Error("Read shares memory")
	}
	labels := []int{1, 2}
	code := []api.Instr{{Op: 0x0e, L: labels, A: 3}, {Op: 0x0b}}
	w, _ := expr.Write(code)
	x, _ := expr.Write(code)
	w[0] = 0
	if x[0] != 0x0e || !same(code, []api.Instr{{Op: 0x0e, L: []int{1, 2}, A: 3}, {Op: 0x0b}}) {
		t.Error("Write shares memory")
	}
}
