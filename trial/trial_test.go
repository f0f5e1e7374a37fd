package trial

import (
	"slices"
	"testing"

	"plait/api"
	"plait/store"
)

func cell(op, a int) api.Cell { return api.Cell{Op: op, A: a} }

// What a sequence leaves and changes is told, and which cells are straight.
func TestRun(t *testing.T) {
	s, _ := store.New(api.Module{Start: -1})
	rows := []struct {
		cells          []api.Cell
		want           []uint64
		e              api.Errno
		kept, straight bool
	}{
		{[]api.Cell{cell(0x7c, 0)}, []uint64{7}, 0, true, true},
		{[]api.Cell{cell(0x21, 5), cell(0x21, 6), cell(0x20, 5)}, []uint64{4}, 0, true, true},
		{[]api.Cell{cell(0x7c, 0), cell(0x22, 4)}, []uint64{7}, 0, false, false},
		{[]api.Cell{cell(0x7c, 0), cell(0x22, 7)}, []uint64{7}, 0, false, false},
		{[]api.Cell{cell(0x7c, 0), cell(0x7c, 0), cell(0x22, 5)}, nil, api.ErrBad, true, true},
		{[]api.Cell{cell(0x7d, 0), cell(0x29, 0)}, nil, api.ErrBad, true, false},
		{[]api.Cell{cell(0x7f, 0)}, []uint64{0}, 0, true, false},
		{[]api.Cell{cell(0x7c, 0), cell(0x101, 0)}, nil, api.ErrFuel, true, false},
	}
	for i, r := range rows {
		q := Sequence{Cells: r.cells, Base: 5, Used: 2, Operands: []uint64{3, 4}, Results: 1}
		if got, e, kept := q.Run(s); e != r.e || kept != r.kept && r.want != nil || r.want != nil && !slices.Equal(got, r.want) {
			t.Error(i, got, e, kept)
		}
		if q.Straight(false) != r.straight {
			t.Error(i, q.Straight(false))
		}
	}
	q := Sequence{Cells: []api.Cell{cell(0x29, 0)}}
	if !q.Straight(true) || q.Straight(false) {
		t.Error("accesses")
	}
}
