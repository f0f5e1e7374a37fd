package tape

import (
	"slices"
	"testing"

	"plait/api"
	"plait/cells"
)

// Cells are laid in order, locals handed out one by one.
func TestMaker(t *testing.T) {
	m := New(10)
	xs := m.Take(2)
	k := m.Keep(xs[0].Plus(xs[1]))
	m.Put(k.Up(0), k.Down(3))
	want := []api.Cell{
		{Op: cells.Set, A: 10}, {Op: cells.Set, A: 11}, {Op: cells.Get, A: 11}, {Op: cells.Get, A: 10}, {Op: 0x7c}, {Op: cells.Set, A: 12},
		{Op: cells.Get, A: 12}, {Op: cells.Get, A: 12}, {Op: cells.Const, N: 3}, {Op: 0x88},
	}
	if !slices.Equal(m.Cells, want) || m.Used() != 3 {
		t.Error(m.Cells, m.Used())
	}
}

// The numbers of which lanes are made.
func TestNumbers(t *testing.T) {
	for _, r := range []struct {
		got, want uint64
	}{
		{Each(8, 1), 0x0101010101010101}, {Each(16, 0xff), 0x00ff00ff00ff00ff}, {Each(64, 5), 5}, {High(8), 0x8080808080808080}, {High(64), 1 << 63}, {Full(8), 255}, {Full(64), 1<<64 - 1}, {High(32), 0x8000000080000000},
	} {
		if r.got != r.want {
			t.Errorf("%x, want %x", r.got, r.want)
		}
	}
	if half, i := Where(16, 6); half != 1 || i != 2 {
		t.Error(half, i)
	}
	if half, i := Where(64, 1); half != 1 || i != 0 {
		t.Error(half, i)
	}
}
