package cells

import (
	"testing"

	"plait/api"
)

// The effect of each kind of cell; target's tests have them all.
func TestEffect(t *testing.T) {
	p := api.Prog{Sigs: []api.Sig{{In: []int{api.I32, api.I64}, Out: []int{api.I64}}}, Funcs: []api.Fn{{In: 2, Out: 3}}}
	rows := []struct {
		c           api.Cell
		takes, give int
	}{
		{api.Cell{Op: Return}, 4, 0}, {api.Cell{Op: Call}, 2, 3}, {api.Cell{Op: Call, A: 1}, 0, 0}, {api.Cell{Op: CallIndirect}, 3, 1}, {api.Cell{Op: CallIndirect, A: -1}, 0, 0},
		{api.Cell{Op: Select}, 3, 1}, {api.Cell{Op: Slide, A: 2, N: 5}, 7, 2}, {api.Cell{Op: 0x6a}, 2, 1}, {api.Cell{Op: 0x37}, 2, 0}, {api.Cell{Op: 0x29}, 1, 1}, {api.Cell{Op: 0xfd6e}, 0, 0}, {api.Cell{Op: Tick}, 0, 0},
	}
	for _, r := range rows {
		if takes, gives := Effect(p, api.Fn{Out: 4}, r.c); takes != r.takes || gives != r.give {
			t.Errorf("%v: %d %d", r.c, takes, gives)
		}
	}
	if Operands([]int{api.I32, api.V128, api.I64}) != 4 || Operands(nil) != 0 {
		t.Error("Operands")
	}
	if !Scalar(Tick) || !Scalar(0x6a) || !Scalar(0x37) || Scalar(0xfd6e) || Scalar(0x41) {
		t.Error("Scalar")
	}
}
