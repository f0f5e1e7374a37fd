package shapes

import (
	"math"
	"testing"

	"plait/instr"
)

// kinds tells in how many of the tables an opcode is.
func kinds(op int) int {
	n := 0
	count := func(w int) {
		if w != 0 {
			n++
		}
	}
	w, _ := Arith(op)
	count(w)
	w, _ = Relation(op)
	count(w)
	w, _ = Whole(op)
	count(w)
	count(Bits(op))
	count(Splat(op))
	w, _ = Extract(op)
	count(w)
	count(Replace(op))
	w, _ = Extend(op)
	count(w)
	w, _ = Extmul(op)
	count(w)
	w, _ = Pairwise(op)
	count(w)
	w, _ = Narrow(op)
	count(w)
	_, w = Access(op)
	count(w)
	if op == Const || op == Shuffle || op == Swizzle || op == Q15mulr || op == Dot {
		n++
	}
	return n
}

// Each vector's opcode of chapter 4 is in one table, every other number in
// none; what each table says of it the layers' tests ask.
func TestOneTableEach(t *testing.T) {
	for op := -0x200; op < 0x10200; op++ {
		_, ok := instr.Of(op)
		want := 0
		if ok && op >= 0xfd00 {
			want = 1
		}
		if kinds(op) != want {
			t.Errorf("%x: %d", op, kinds(op))
		}
	}
	for _, op := range []int{math.MinInt, math.MaxInt, 1<<32 + 0xfd6e} {
		if kinds(op) != 0 {
			t.Errorf("%x", op)
		}
	}
}

// The widths and parts of the rows.
func TestRows(t *testing.T) {
	if w, p := Extend(0xfd88); w != 16 || p != (Part{High: true, Signed: true}) {
		t.Error(w, p)
	}
	if w, p := Extmul(0xfdde); w != 64 || p != (Part{}) {
		t.Error(w, p)
	}
	if w, s := Narrow(0xfd86); w != 16 || s {
		t.Error(w, s)
	}
	if w, s := Pairwise(0xfd7e); w != 32 || !s {
		t.Error(w, s)
	}
	if w, s := Widened(0xfd06); w != 64 || s {
		t.Error(w, s)
	}
	if w, s := Widened(0xfd07); w != 0 || s {
		t.Error(w, s)
	}
}
