package split_test

import (
	"math"
	"reflect"
	"slices"
	"testing"

	"plait/api"
	"plait/split"
)

const i32, i64, v128 = api.I32, api.I64, api.V128

// P21.1
func TestTypes(t *testing.T) {
	rows := []struct {
		types, image, offsets []int
	}{
		{nil, nil, nil}, {[]int{v128, i32}, []int{i64, i64, i32}, []int{0, 2}}, {[]int{0x7d, v128}, []int{i64, i64}, []int{0, 0}}, {[]int{i32, i64, v128, v128, i32, i64}, []int{i32, i64, i64, i64, i64, i64, i32, i64}, []int{0, 1, 2, 4, 6, 7}},
		{[]int{-1, 0, math.MinInt, math.MaxInt, 0x7c}, nil, []int{0, 0, 0, 0, 0}}, {[]int{i32, 5, i32}, []int{i32, i32}, []int{0, 1, 1}}, {[]int{v128, 5, i64}, []int{i64, i64, i64}, []int{0, 2, 2}},
	}
	for _, r := range rows {
		if !slices.Equal(split.Types(r.types...), r.image) || split.Width(r.types...) != len(r.image) || !slices.Equal(split.Offsets(r.types...), r.offsets) {
			t.Error(r.types, split.Types(r.types...), split.Width(r.types...), split.Offsets(r.types...))
		}
		s := split.Sig(api.Sig{In: r.types, Out: []int{v128, 7}})
		if !slices.Equal(s.In, r.image) || !slices.Equal(s.Out, []int{i64, i64}) {
			t.Error(s)
		}
		s = split.Sig(api.Sig{Out: r.types})
		if len(s.In) != 0 || !slices.Equal(s.Out, r.image) {
			t.Error(s)
		}
	}
}

// P21.2
func TestCanon(t *testing.T) {
	m := api.Module{Types: []api.Sig{{}, {In: []int{i32}}, {In: []int{}, Out: []int{}}, {Out: []int{i32}}, {In: []int{v128}}, {In: []int{i64, i64}}, {In: []int{i32}}, {In: []int{i64, i64}}, {In: []int{99}}, {In: []int{99}}, {In: []int{i32}, Out: []int{i32}}, {Out: []int{i32}}}}
	for k, want := range []int{0, 1, 0, 3, 4, 5, 1, 5, 8, 8, 10, 3} {
		if got := split.Canon(m, k); got != want {
			t.Error(k, got)
		}
	}
	for _, k := range []int{-1, 12, math.MinInt, math.MaxInt} {
		if got := split.Canon(m, k); got != -1 {
			t.Error(k, got)
		}
	}
	if split.Canon(api.Module{}, 0) != -1 {
		t.Error("of no types")
	}
}

// P21.3
func TestBlock(t *testing.T) {
	m := api.Module{Types: []api.Sig{{}, {In: []int{i32}}, {In: []int{v128, i32}, Out: []int{i64, v128, v128}}, {Out: []int{5, v128}}}}
	want := map[int][2]int{-1: {0, 1}, -2: {0, 1}, -5: {0, 2}, 1: {1, 0}, 2: {3, 5}, 3: {0, 2}}
	for _, a := range []int{math.MinInt, -65, -64, -63, -6, -5, -4, -3, -2, -1, 0, 1, 2, 3, 4, math.MaxInt} {
		if takes, gives := split.Block(m, a); [2]int{takes, gives} != want[a] {
			t.Error(a, takes, gives)
		}
	}
}

// P21.4
func TestMemory(t *testing.T) {
	types := []int{i32, v128}
	m := api.Module{Types: []api.Sig{{In: []int{v128}, Out: []int{i32}}}}
	one, two := split.Types(types...), split.Offsets(types...)
	s := split.Sig(m.Types[0])
	one[0], two[0], s.In[0], s.Out[0] = 7, 7, 7, 7
	split.Canon(m, 0)
	split.Block(m, 0)
	if !slices.Equal(types, []int{i32, v128}) || !reflect.DeepEqual(m.Types[0], api.Sig{In: []int{v128}, Out: []int{i32}}) || split.Types(types...)[0] != i32 {
		t.Error("memory is shared")
	}
}
