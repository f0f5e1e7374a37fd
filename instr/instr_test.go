package instr_test

import (
	"math"
	"slices"
	"strconv"
	"strings"
	"testing"

	"plait/api"
	"plait/instr"
)

// table is the document's table: opcodes, form, limit, types.
const table = `
00 | none | 0 | -
01 | none | 0 | none to none
02 to 04 | block | 0 | -
05 | none | 0 | -
0b | none | 0 | -
0c to 0d | label | 0 | -
0e | table | 0 | -
0f | none | 0 | -
10 | index | 0 | -
11 | indirect | 0 | -
1a to 1b | none | 0 | -
20 to 24 | index | 0 | -
28 | memory | 2 | i32 to i32
29 | memory | 3 | i32 to i64
2c to 2d | memory | 0 | i32 to i32
2e to 2f | memory | 1 | i32 to i32
30 to 31 | memory | 0 | i32 to i64
32 to 33 | memory | 1 | i32 to i64
34 to 35 | memory | 2 | i32 to i64
36 | memory | 2 | i32 i32 to none
37 | memory | 3 | i32 i64 to none
3a | memory | 0 | i32 i32 to none
3b | memory | 1 | i32 i32 to none
3c | memory | 0 | i32 i64 to none
3d | memory | 1 | i32 i64 to none
3e | memory | 2 | i32 i64 to none
3f | zero | 0 | none to i32
40 | zero | 0 | i32 to i32
41 | i32 | 0 | none to i32
42 | i64 | 0 | none to i64
45 | none | 0 | i32 to i32
46 to 4f | none | 0 | i32 i32 to i32
50 | none | 0 | i64 to i32
51 to 5a | none | 0 | i64 i64 to i32
67 to 69 | none | 0 | i32 to i32
6a to 78 | none | 0 | i32 i32 to i32
79 to 7b | none | 0 | i64 to i64
7c to 8a | none | 0 | i64 i64 to i64
a7 | none | 0 | i64 to i32
ac to ad | none | 0 | i32 to i64
c0 to c1 | none | 0 | i32 to i32
c2 to c4 | none | 0 | i64 to i64
fd00 | memory | 4 | i32 to v128
fd01 to fd06 | memory | 3 | i32 to v128
fd07 | memory | 0 | i32 to v128
fd08 | memory | 1 | i32 to v128
fd09 | memory | 2 | i32 to v128
fd0a | memory | 3 | i32 to v128
fd0b | memory | 4 | i32 v128 to none
fd0c | v128 | 0 | none to v128
fd0d | shuffle | 0 | v128 v128 to v128
fd0e | none | 0 | v128 v128 to v128
fd0f to fd11 | none | 0 | i32 to v128
fd12 | none | 0 | i64 to v128
fd15 to fd16 | lane | 16 | v128 to i32
fd17 | lane | 16 | v128 i32 to v128
fd18 to fd19 | lane | 8 | v128 to i32
fd1a | lane | 8 | v128 i32 to v128
fd1b | lane | 4 | v128 to i32
fd1c | lane | 4 | v128 i32 to v128
fd1d | lane | 2 | v128 to i64
fd1e | lane | 2 | v128 i64 to v128
fd23 to fd40 | none | 0 | v128 v128 to v128
fd4d | none | 0 | v128 to v128
fd4e to fd51 | none | 0 | v128 v128 to v128
fd52 | none | 0 | v128 v128 v128 to v128
fd53 | none | 0 | v128 to i32
fd54 | lanes | 0 | i32 v128 to v128
fd55 | lanes | 1 | i32 v128 to v128
fd56 | lanes | 2 | i32 v128 to v128
fd57 | lanes | 3 | i32 v128 to v128
fd58 | lanes | 0 | i32 v128 to none
fd59 | lanes | 1 | i32 v128 to none
fd5a | lanes | 2 | i32 v128 to none
fd5b | lanes | 3 | i32 v128 to none
fd5c | memory | 2 | i32 to v128
fd5d | memory | 3 | i32 to v128
fd60 to fd62 | none | 0 | v128 to v128
fd63 to fd64 | none | 0 | v128 to i32
fd65 to fd66 | none | 0 | v128 v128 to v128
fd6b to fd6d | none | 0 | v128 i32 to v128
fd6e to fd73 | none | 0 | v128 v128 to v128
fd76 to fd79 | none | 0 | v128 v128 to v128
fd7b | none | 0 | v128 v128 to v128
fd7c to fd81 | none | 0 | v128 to v128
fd82 | none | 0 | v128 v128 to v128
fd83 to fd84 | none | 0 | v128 to i32
fd85 to fd86 | none | 0 | v128 v128 to v128
fd87 to fd8a | none | 0 | v128 to v128
fd8b to fd8d | none | 0 | v128 i32 to v128
fd8e to fd93 | none | 0 | v128 v128 to v128
fd95 to fd99 | none | 0 | v128 v128 to v128
fd9b to fd9f | none | 0 | v128 v128 to v128
fda0 to fda1 | none | 0 | v128 to v128
fda3 to fda4 | none | 0 | v128 to i32
fda7 to fdaa | none | 0 | v128 to v128
fdab to fdad | none | 0 | v128 i32 to v128
fdae | none | 0 | v128 v128 to v128
fdb1 | none | 0 | v128 v128 to v128
fdb5 to fdba | none | 0 | v128 v128 to v128
fdbc to fdbf | none | 0 | v128 v128 to v128
fdc0 to fdc1 | none | 0 | v128 to v128
fdc3 to fdc4 | none | 0 | v128 to i32
fdc7 to fdca | none | 0 | v128 to v128
fdcb to fdcd | none | 0 | v128 i32 to v128
fdce | none | 0 | v128 v128 to v128
fdd1 | none | 0 | v128 v128 to v128
fdd5 to fddf | none | 0 | v128 v128 to v128
`

const floats = "2a 2b 38 39 43 44 5b-66 8b-a6 a8-ab ae-bf fd13 fd14 fd1f-fd22 fd41-fd4c fd5e fd5f fd67-fd6a fd74 fd75 fd7a fd94 fde0-fdff"

var forms = map[string]int{"none": 1, "block": 2, "label": 3, "table": 4, "index": 5, "indirect": 6, "memory": 7, "lanes": 8, "i32": 9, "i64": 10, "v128": 11, "shuffle": 12, "lane": 13, "zero": 14}

func span(s, mid string) (int, int) {
	a, b, two := strings.Cut(s, mid)
	if !two {
		b = a
	}
	x, _ := strconv.ParseInt(strings.TrimSpace(a), 16, 64)
	y, _ := strconv.ParseInt(strings.TrimSpace(b), 16, 64)
	return int(x), int(y)
}

func kinds(s string) []int {
	var ts []int
	for _, w := range strings.Fields(s) {
		if t := map[string]int{"i32": api.I32, "i64": api.I64, "v128": api.V128}[w]; t != 0 {
			ts = append(ts, t)
		}
	}
	return ts
}

func rows() map[int]api.Info {
	all := map[int]api.Info{}
	for _, line := range strings.Split(strings.TrimSpace(table), "\n") {
		f := strings.Split(line, " | ")
		limit, _ := strconv.Atoi(f[2])
		info := api.Info{Form: forms[f[1]], Limit: limit}
		if f[3] != "-" {
			in, out, _ := strings.Cut(f[3], " to ")
			info.Plain, info.In, info.Out = true, kinds(in), kinds(out)
		}
		first, last := span(f[0], " to ")
		for op := first; op <= last; op++ {
			all[op] = info
		}
	}
	return all
}

func same(a, b api.Info) bool {
	return a.Form == b.Form && a.Limit == b.Limit && a.Plain == b.Plain && slices.Equal(a.In, b.In) && slices.Equal(a.Out, b.Out)
}

var outside = []int{math.MinInt, math.MaxInt, -0xfd00, 0xfcff, 0xfe00, 1<<32 + 0x6a, 1<<32 + 0xfd6e, -1}

// P4.1
func TestOf(t *testing.T) {
	want := rows()
	for op := -0x200; op < 0x10200; op++ {
		info, ok := instr.Of(op)
		w, there := want[op]
		if ok != there || !same(info, w) {
			t.Errorf("%x: %v %v, want %v", op, info, ok, w)
		}
	}
	for _, op := range outside {
		if info, ok := instr.Of(op); ok || !same(info, api.Info{}) {
			t.Errorf("%x: %v", op, info)
		}
	}
}

// P4.2
func TestFloat(t *testing.T) {
	want := map[int]bool{}
	for _, f := range strings.Fields(floats) {
		first, last := span(f, "-")
		for op := first; op <= last; op++ {
			want[op] = true
		}
	}
	for op := -0x200; op < 0x10200; op++ {
		if instr.Float(op) != want[op] {
			t.Errorf("%x: %v", op, instr.Float(op))
		}
		if _, ok := instr.Of(op); ok && instr.Float(op) {
			t.Errorf("%x is both", op)
		}
	}
	for _, op := range outside {
		if instr.Float(op) {
			t.Errorf("%x", op)
		}
	}
}

// P4.3
func TestMemory(t *testing.T) {
	one, _ := instr.Of(0xfd52)
	two, _ := instr.Of(0xfd52)
	one.In[0], one.Out[0] = 1, 2
	if two.In[0] != api.V128 || two.Out[0] != api.V128 {
		t.Error("answers share memory")
	}
	two.In = append(two.In, 1)
	if cap(one.In) > 0 && len(one.Out) != 1 {
		t.Error("lists of one answer share memory")
	}
}
