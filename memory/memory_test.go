package memory_test

import (
	"bytes"
	"math"
	"testing"

	"plait/api"
	"plait/memory"
)

const page = api.PageBytes

func of(t *testing.T, least, most int) *memory.Memory {
	t.Helper()
	m, e := memory.New(least, most)
	if e != 0 || m == nil {
		t.Fatal(least, most, e)
	}
	return m
}

// P10.1
func TestNew(t *testing.T) {
	rows := []struct {
		least, most int
		e           api.Errno
	}{
		{-1, -1, api.ErrArg}, {0, -2, api.ErrArg}, {2, 1, api.ErrArg}, {1, 0, api.ErrArg}, {math.MinInt, -1, api.ErrArg}, {0, math.MinInt, api.ErrArg}, {17, 16, api.ErrArg}, {math.MaxInt, 5, api.ErrArg},
		{17, -1, api.ErrMany}, {17, 17, api.ErrMany}, {math.MaxInt, -1, api.ErrMany}, {math.MaxInt, math.MaxInt, api.ErrMany},
		{0, 70000, 0}, {0, 0, 0}, {0, -1, 0}, {16, -1, 0}, {16, 16, 0}, {3, math.MaxInt, 0},
	}
	for _, r := range rows {
		m, e := memory.New(r.least, r.most)
		if e != r.e || (m == nil) != (e != 0) {
			t.Error(r, m != nil, e)
		}
		if e == 0 && m.Pages() != r.least {
			t.Error(r, m.Pages())
		}
	}
	b, e := of(t, 2, 3).Peek(2*page-4096, 4096)
	if e != 0 || !bytes.Equal(b, make([]byte, 4096)) {
		t.Error("not zeros", e)
	}
}

// P10.2
func TestGrow(t *testing.T) {
	m := of(t, 1, 2)
	for i, want := range []uint32{1, 1<<32 - 1, 2} {
		if got := m.Grow([]uint32{1, 1, 0}[i]); got != want {
			t.Error(i, got)
		}
	}
	for _, most := range []int{-1, 16, 17, 65536, math.MaxInt} {
		m := of(t, 3, most)
		if m.Grow(14) != 1<<32-1 || m.Grow(math.MaxUint32) != 1<<32-1 || m.Pages() != 3 || m.Grow(13) != 3 || m.Pages() != 16 || m.Grow(1) != 1<<32-1 || m.Grow(0) != 16 {
			t.Error(most, m.Pages())
		}
	}
	m = of(t, 1, -1)
	m.Store(page-1, 1, 255)
	if m.Grow(2) != 1 {
		t.Error("Grow")
	}
	b, e := m.Peek(page-1, 4096)
	if e != 0 || b[0] != 255 || !bytes.Equal(b[1:], make([]byte, 4095)) {
		t.Error("old bytes stay, new ones are 0", e)
	}
	if x, e := m.Load(3*page-8, 8); x != 0 || e != 0 {
		t.Error(x, e)
	}
	if _, e := m.Load(3*page-7, 8); e != api.TrapBounds {
		t.Error(e)
	}
	if z := of(t, 0, 0); z.Grow(1) != 1<<32-1 || z.Grow(0) != 0 {
		t.Error("of 0, 0")
	}
}

// P10.3
func TestLoadStore(t *testing.T) {
	m := of(t, 2, 2)
	const x = 0x8877665544332211
	for _, n := range []int{1, 2, 4, 8} {
		for _, at := range []uint64{0, 1, 7, page - 3, 2*page - 8} {
			m.Poke(at, bytes.Repeat([]byte{0xee}, 8))
			if e := m.Store(at, n, x); e != 0 {
				t.Error(n, at, e)
			}
			b, _ := m.Peek(int(at), 8)
			want := append([]byte{0x11, 0x22, 0x33, 0x44, 0x55, 0x66, 0x77, 0x88}[:n:n], bytes.Repeat([]byte{0xee}, 8-n)...)
			if !bytes.Equal(b, want) {
				t.Errorf("%d %d: %x", n, at, b)
			}
			if y, e := m.Load(at, n); y != x<<(64-8*n)>>(64-8*n) || e != 0 {
				t.Errorf("%d %d: %x %d", n, at, y, e)
			}
		}
		end := uint64(2*page - n)
		if m.Store(end, n, 1) != 0 {
			t.Error(n)
		}
		before, _ := m.Peek(2*page-16, 16)
		for _, at := range []uint64{end + 1, 2 * page, 2*page + 1, 1 << 32, math.MaxUint64, math.MaxUint64 - 7, 1 << 63} {
			if e := m.Store(at, n, x); e != api.TrapBounds {
				t.Error(n, at, e)
			}
			if y, e := m.Load(at, n); y != 0 || e != api.TrapBounds {
				t.Error(n, at, y, e)
			}
		}
		if after, _ := m.Peek(2*page-16, 16); !bytes.Equal(before, after) {
			t.Error("a trap has changed bytes")
		}
	}
	for _, n := range []int{0, 3, 5, 6, 7, 9, 16, -1, math.MinInt, math.MaxInt} {
		for _, at := range []uint64{0, math.MaxUint64} {
			if y, e := m.Load(at, n); y != 0 || e != api.ErrArg {
				t.Error(n, y, e)
			}
			if e := m.Store(at, n, 1); e != api.ErrArg {
				t.Error(n, e)
			}
		}
	}
	m.Poke(0, make([]byte, 8))
	m.Store(0, 2, 70000)
	if y, _ := m.Load(0, 4); y != 4464 {
		t.Error(y)
	}
}

// P10.4
func TestPeekPoke(t *testing.T) {
	m := of(t, 2, 2)
	rows := []struct {
		at, n int
		e     api.Errno
	}{
		{0, 4097, api.ErrArg}, {-1, 0, api.ErrArg}, {0, -1, api.ErrArg}, {math.MaxInt, 4097, api.ErrArg}, {math.MinInt, math.MinInt, api.ErrArg},
		{0, 4096, 0}, {2 * page, 0, 0}, {2*page - 4096, 4096, 0}, {2*page - 4095, 4096, api.TrapBounds}, {2*page + 1, 0, api.TrapBounds}, {math.MaxInt, 4096, api.TrapBounds}, {math.MaxInt, 0, api.TrapBounds},
	}
	for _, r := range rows {
		b, e := m.Peek(r.at, r.n)
		if e != r.e || e != 0 && b != nil || e == 0 && len(b) != r.n {
			t.Error(r, len(b), e)
		}
	}
	if m.Poke(2*page, nil) != 0 || m.Poke(2*page-1, []byte{1, 2}) != api.TrapBounds || m.Poke(2*page+1, nil) != api.TrapBounds || m.Poke(math.MaxUint64, []byte{1, 2}) != api.TrapBounds {
		t.Error("Poke")
	}
	if x, _ := m.Load(2*page-1, 1); x != 0 {
		t.Error("a Poke that traps has changed a byte")
	}
	if m.Poke(2*page-2, []byte{3, 4}) != 0 {
		t.Error("Poke at the end")
	}
	if b, _ := m.Peek(2*page-3, 3); !bytes.Equal(b, []byte{0, 3, 4}) {
		t.Error(b)
	}
	if of(t, 0, -1).Poke(0, make([]byte, 1)) != api.TrapBounds || of(t, 0, -1).Poke(0, nil) != 0 {
		t.Error("Poke without pages")
	}
}

// P10.5
func TestClone(t *testing.T) {
	m := of(t, 1, 2)
	m.Store(5, 1, 9)
	c := m.Clone()
	c.Store(5, 1, 10)
	c.Grow(1)
	if x, _ := m.Load(5, 1); x != 9 || m.Pages() != 1 || c.Pages() != 2 || c.Grow(1) != 1<<32-1 {
		t.Error("Clone")
	}
	m.Store(6, 1, 3)
	if x, _ := c.Load(6, 1); x != 0 {
		t.Error("Clone shares bytes")
	}
	data := []byte{1, 2, 3}
	m.Poke(0, data)
	data[0] = 99
	b, _ := m.Peek(0, 3)
	if !bytes.Equal(b, []byte{1, 2, 3}) {
		t.Error("Poke keeps what was handed in")
	}
	b[1] = 77
	b = append(b, 1)
	if x, _ := m.Load(0, 8); x != 0x0003090000030201 {
		t.Errorf("%x", x)
	}
	m.Store(1, 1, 55)
	if b[1] != 77 || !bytes.Equal(data, []byte{99, 2, 3}) {
		t.Error("Peek shares bytes")
	}
}

// P10.5: a nil memory.
func TestNil(t *testing.T) {
	var m *memory.Memory
	if m.Clone() != nil || m.Pages() != 0 || m.Grow(0) != 1<<32-1 || m.Grow(1) != 1<<32-1 {
		t.Error("nil")
	}
	if x, e := m.Load(0, 3); x != 0 || e != api.ErrNil {
		t.Error(x, e)
	}
	if e := m.Store(0, 3, 1); e != api.ErrNil {
		t.Error(e)
	}
	if b, e := m.Peek(-1, -1); b != nil || e != api.ErrNil {
		t.Error(b, e)
	}
	if e := m.Poke(0, nil); e != api.ErrNil {
		t.Error(e)
	}
}
