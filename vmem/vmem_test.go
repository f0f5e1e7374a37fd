package vmem_test

import (
	"bytes"
	"math"
	"testing"

	"plait/api"
	"plait/memory"
	"plait/pair"
	"plait/vmem"
)

const page = api.PageBytes

var sizes = map[int]int{
	0xfd00: 16, 0xfd01: 8, 0xfd02: 8, 0xfd03: 8, 0xfd04: 8, 0xfd05: 8, 0xfd06: 8, 0xfd07: 1, 0xfd08: 2, 0xfd09: 4, 0xfd0a: 8, 0xfd0b: 16,
	0xfd54: 1, 0xfd55: 2, 0xfd56: 4, 0xfd57: 8, 0xfd58: 1, 0xfd59: 2, 0xfd5a: 4, 0xfd5b: 8, 0xfd5c: 4, 0xfd5d: 8,
}

func isStore(op int) bool { return op == 0xfd0b || op >= 0xfd58 && op <= 0xfd5b }

func hasLane(op int) bool { return op >= 0xfd54 && op <= 0xfd5b }

func opcodes() []int {
	list := []int{math.MinInt, math.MaxInt, -1, 0, 0x28, 0x36, 1<<32 + 0xfd00}
	for op := 0xfc00; op < 0xff00; op++ {
		list = append(list, op)
	}
	return list
}

// filled is a memory of one page whose bytes differ about its ends.
func filled(t *testing.T) *memory.Memory {
	t.Helper()
	m, e := memory.New(1, -1)
	if e != 0 {
		t.Fatal(e)
	}
	for at := range 300 {
		m.Store(uint64(at), 1, uint64(at*151+at/7+0x7f))
		m.Store(uint64(page-1-at), 1, uint64(at*77+3))
	}
	return m
}

func image(m *memory.Memory) []byte {
	var all []byte
	for at := 0; at < page*m.Pages(); at += 4096 {
		b, _ := m.Peek(at, 4096)
		all = append(all, b...)
	}
	return all
}

// P11.1
func TestSize(t *testing.T) {
	for _, op := range opcodes() {
		if vmem.Size(op) != sizes[op] {
			t.Errorf("%x: %d", op, vmem.Size(op))
		}
	}
}

// want is what a load makes of its bytes, by the document's table.
func want(op int, b []byte, lane int, old api.Vec) api.Vec {
	var v api.Vec
	n := len(b)
	switch {
	case op == 0xfd00 || op >= 0xfd5c:
		copy(v[:], b)
	case op <= 0xfd06:
		w := []int{1, 2, 4}[(op-0xfd01)/2]
		for i := range 8 / w {
			copy(v[2*w*i:], b[w*i:w*(i+1)])
			if (op-0xfd01)%2 == 0 && b[w*(i+1)-1] >= 128 {
				copy(v[2*w*i+w:2*w*(i+1)], bytes.Repeat([]byte{255}, w))
			}
		}
	case op <= 0xfd0a:
		copy(v[:], bytes.Repeat(b, 16/n))
	default:
		v = old
		copy(v[lane*n:], b)
	}
	return v
}

// P11.2
func TestLoad(t *testing.T) {
	m := filled(t)
	old := pair.Of(64, 0x1122334455667788, 0x99aabbccddeeff00)
	for op, n := range sizes {
		if isStore(op) {
			continue
		}
		for lane := range 16 / n {
			in := api.Instr{Op: op, A: 99, Lo: uint64(lane), Hi: 5}
			if !hasLane(op) {
				in.Lo = 1 << 40 // passed over
			}
			for _, at := range []int{0, 1, 2, 3, 77, 200, page - 40, page - n} {
				b, _ := m.Peek(at, n)
				for _, offset := range []int{0, at / 2, at} {
					in.B = offset
					v, e := vmem.Load(m, in, uint32(at-offset), old)
					if w := want(op, b, lane, old); v != w || e != 0 {
						t.Errorf("%x %d at %d: %x %d, want %x", op, lane, at, v, e, w)
					}
				}
			}
		}
	}
}

// P11.3
func TestStore(t *testing.T) {
	v := pair.Of(64, 0x1122334455667788, 0x99aabbccddeeff00)
	for op, n := range sizes {
		if !isStore(op) {
			continue
		}
		for lane := range 16 / n {
			in := api.Instr{Op: op, A: 99, Lo: uint64(lane), Hi: 5}
			for _, at := range []int{0, 1, 77, page - 40, page - n} {
				m := filled(t)
				w := image(m)
				if op == 0xfd0b {
					in.Lo = 1 << 40 // passed over
					copy(w[at:], v[:])
				} else {
					copy(w[at:], v[lane*n:(lane+1)*n])
				}
				in.B = at / 3
				if e := vmem.Store(m, in, uint32(at-at/3), v); e != 0 || !bytes.Equal(image(m), w) {
					t.Errorf("%x %d at %d: %d", op, lane, at, e)
				}
			}
		}
	}
}

// P11.2, P11.3: the whole access must lie in the memory; else nothing changes.
func TestBounds(t *testing.T) {
	m := filled(t)
	before := image(m)
	empty, _ := memory.New(0, -1)
	ones := pair.Of(64, math.MaxUint64, math.MaxUint64)
	for op, n := range sizes {
		end := page - n
		rows := []struct{ addr, b int }{{end + 1, 0}, {0, end + 1}, {page, 0}, {page - 1, 2}, {0, 1<<32 - 1}, {1<<32 - 1, 0}, {1<<32 - 1, 1<<32 - 1}, {1<<32 - 1, 1}, {1, 1<<32 - 1}, {1<<32 - n, n}, {1 << 31, 1 << 31}}
		for _, r := range rows {
			access(t, m, api.Instr{Op: op, B: r.b}, uint32(r.addr), ones, api.TrapBounds)
		}
		access(t, empty, api.Instr{Op: op}, 0, ones, api.TrapBounds)
	}
	if !bytes.Equal(before, image(m)) {
		t.Error("a trap has changed bytes")
	}
}

func access(t *testing.T, m *memory.Memory, in api.Instr, addr uint32, v api.Vec, want api.Errno) {
	t.Helper()
	if isStore(in.Op) {
		if e := vmem.Store(m, in, addr, v); e != want {
			t.Errorf("%x %d %d: %d, want %d", in.Op, in.B, addr, e, want)
		}
		return
	}
	if x, e := vmem.Load(m, in, addr, v); e != want || x != (api.Vec{}) {
		t.Errorf("%x %d %d: %x %d, want %d", in.Op, in.B, addr, x, e, want)
	}
}

// P11.2, P11.3: ErrArg, then ErrNil, then TrapBounds.
func TestErrors(t *testing.T) {
	m := filled(t)
	before := image(m)
	v := pair.Of(64, 1, 2)
	for _, op := range opcodes() {
		for _, mem := range []*memory.Memory{m, nil} {
			in := api.Instr{Op: op}
			x, e := vmem.Load(mem, in, 1<<32-1, v)
			wrong := api.ErrArg
			if sizes[op] != 0 && !isStore(op) {
				wrong = map[bool]api.Errno{true: api.ErrNil, false: api.TrapBounds}[mem == nil]
			}
			if x != (api.Vec{}) || e != wrong {
				t.Errorf("Load %x: %d, want %d", op, e, wrong)
			}
			wrong = api.ErrArg
			if isStore(op) {
				wrong = map[bool]api.Errno{true: api.ErrNil, false: api.TrapBounds}[mem == nil]
			}
			if e := vmem.Store(mem, in, 1<<32-1, v); e != wrong {
				t.Errorf("Store %x: %d, want %d", op, e, wrong)
			}
		}
	}
	for op, n := range sizes {
		for _, b := range []int{-1, 1 << 32, math.MinInt, math.MaxInt} {
			access(t, nil, api.Instr{Op: op, B: b}, 0, v, api.ErrArg)
			access(t, m, api.Instr{Op: op, B: b}, 0, v, api.ErrArg)
		}
		for _, lane := range []uint64{uint64(16 / n), uint64(16/n) + 1, 1 << 32, 1 << 63, math.MaxUint64} {
			if hasLane(op) {
				access(t, nil, api.Instr{Op: op, Lo: lane}, 0, v, api.ErrArg)
				access(t, m, api.Instr{Op: op, Lo: lane}, 0, v, api.ErrArg)
			}
		}
	}
	if !bytes.Equal(before, image(m)) {
		t.Error("an error has changed bytes")
	}
}

// P11.2, P11.3: the document's examples.
func TestExamples(t *testing.T) {
	m, _ := memory.New(1, -1)
	access(t, m, api.Instr{Op: 0xfd00}, 65520, api.Vec{}, 0)
	access(t, m, api.Instr{Op: 0xfd00}, 65521, api.Vec{}, api.TrapBounds)
	access(t, m, api.Instr{Op: 0xfd5d}, 65529, api.Vec{}, api.TrapBounds)
	m.Poke(0, []byte{0xff, 1})
	if v, e := vmem.Load(m, api.Instr{Op: 0xfd01}, 0, api.Vec{}); pair.Get(v, 32, 0) != 0x0001ffff || e != 0 {
		t.Error(v, e)
	}
	m.Poke(8, []byte{0x34, 0x12})
	if v, e := vmem.Load(m, api.Instr{Op: 0xfd08}, 8, api.Vec{}); v != pair.Of(64, 0x1234123412341234, 0x1234123412341234) || e != 0 {
		t.Error(v, e)
	}
	if e := vmem.Store(m, api.Instr{Op: 0xfd5a, Lo: 3}, 100, pair.Of(32, 1, 2, 3, 0xa1b2c3d4)); e != 0 {
		t.Error(e)
	}
	if x, _ := m.Load(100, 4); x != 0xa1b2c3d4 {
		t.Errorf("%x", x)
	}
}
