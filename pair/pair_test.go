package pair_test

import (
	"encoding/binary"
	"math"
	"slices"
	"testing"

	"plait/api"
	"plait/pair"
)

var widths = []int{8, 16, 32, 64}

var strange = []int{math.MinInt, -64, -8, -1, 0, 1, 7, 9, 12, 24, 63, 65, 128, math.MaxInt}

// count16 is the vector of the bytes 00 to 0f.
func count16() api.Vec {
	var v api.Vec
	for i := range v {
		v[i] = byte(i)
	}
	return v
}

// samples are vectors with signs, ends and bytes that all differ.
func samples() []api.Vec {
	a, b, c := count16(), api.Vec{}, api.Vec{}
	for i := range a {
		b[i] = byte(255 - 3*i)
		c[i] = byte(i * 0x55)
	}
	d := api.Vec{0x80, 0x7f, 0xff, 0, 0, 0, 0, 0x80, 0xff, 0xff, 0xff, 0x7f, 0, 0, 0, 0x80}
	return []api.Vec{{}, a, b, c, d}
}

// P2.1
func TestLanesAndHalves(t *testing.T) {
	for i, w := range widths {
		if pair.Lanes(w) != []int{16, 8, 4, 2}[i] {
			t.Error(w, pair.Lanes(w))
		}
	}
	for _, w := range strange {
		if pair.Lanes(w) != 0 {
			t.Error(w, pair.Lanes(w))
		}
	}
	if h := pair.Split(count16()); h.Lo != 0x0706050403020100 || h.Hi != 0x0f0e0d0c0b0a0908 {
		t.Errorf("%x", h)
	}
	for _, v := range samples() {
		h := pair.Split(v)
		if h.Lo != binary.LittleEndian.Uint64(v[:8]) || h.Hi != binary.LittleEndian.Uint64(v[8:]) || pair.Join(h) != v {
			t.Errorf("%x: %x", v, h)
		}
	}
	if pair.Split(pair.Join(api.Halves{Lo: 1 << 63, Hi: 5})) != (api.Halves{Lo: 1 << 63, Hi: 5}) {
		t.Error("Join")
	}
}

// P2.2
func TestGetSet(t *testing.T) {
	v := count16()
	if pair.Get(v, 16, 1) != 0x0302 || pair.Get(v, 32, 3) != 0x0f0e0d0c {
		t.Error("Get")
	}
	if pair.Signed(pair.Of(8, 255), 8, 0) != -1 || pair.Signed(pair.Of(64, 1<<63), 64, 0) != math.MinInt64 {
		t.Error("Signed")
	}
	if x := pair.Set(v, 16, 0, 0x12345); x[0] != 0x45 || x[1] != 0x23 || x[2] != 2 {
		t.Errorf("%x", x)
	}
	for _, v := range samples() {
		for _, w := range widths {
			for i := range pair.Lanes(w) {
				laneAgrees(t, v, w, i)
			}
		}
	}
}

func laneAgrees(t *testing.T, v api.Vec, w, i int) {
	t.Helper()
	var wide [8]byte
	copy(wide[:], v[i*w/8:(i+1)*w/8])
	x := binary.LittleEndian.Uint64(wide[:])
	s := int64(x)
	if w < 64 && x>>(w-1) == 1 {
		s -= 1 << w
	}
	if pair.Get(v, w, i) != x || pair.Signed(v, w, i) != s {
		t.Errorf("%x, %d, %d: %x, %d", v, w, i, pair.Get(v, w, i), pair.Signed(v, w, i))
	}
	const put = 0xfedcba9876543210
	want := v
	binary.LittleEndian.PutUint64(wide[:], put)
	copy(want[i*w/8:(i+1)*w/8], wide[:])
	if pair.Set(v, w, i, put) != want {
		t.Errorf("Set %x, %d, %d", v, w, i)
	}
}

// P2.2, P2.3: no such width or lane.
func TestNoLane(t *testing.T) {
	v := samples()[2]
	for _, w := range append(slices.Clone(strange), widths...) {
		for _, i := range []int{math.MinInt, -1, pair.Lanes(w), pair.Lanes(w) + 1, math.MaxInt} {
			if pair.Get(v, w, i) != 0 || pair.Signed(v, w, i) != 0 || pair.Set(v, w, i, 1) != v {
				t.Error(w, i)
			}
		}
	}
	for _, w := range strange {
		if pair.Get(v, w, 0) != 0 || pair.Signed(v, w, 0) != 0 || pair.Set(v, w, 0, 1) != v || pair.Of(w, 1, 2) != (api.Vec{}) || len(pair.All(v, w)) != 0 {
			t.Error(w)
		}
	}
}

// P2.3
func TestRows(t *testing.T) {
	if h := pair.Split(pair.Of(32, 1, 2)); h.Lo != 0x0000000200000001 || h.Hi != 0 {
		t.Error(h)
	}
	if h := pair.Split(pair.Of(64, 1, 2, 3)); h.Lo != 1 || h.Hi != 2 {
		t.Error(h)
	}
	if pair.Of(8) != (api.Vec{}) || pair.Of(16, 1<<16+5) != pair.Of(16, 5) {
		t.Error("Of")
	}
	for _, v := range samples() {
		for _, w := range widths {
			xs := pair.All(v, w)
			if len(xs) != pair.Lanes(w) || pair.Of(w, xs...) != v {
				t.Error(v, w, xs)
			}
			for i, x := range xs {
				if x != pair.Get(v, w, i) {
					t.Error(v, w, i)
				}
			}
		}
	}
	if xs := pair.All(count16(), 64); !slices.Equal(xs, []uint64{0x0706050403020100, 0x0f0e0d0c0b0a0908}) {
		t.Error(xs)
	}
}

// P2.4
func TestPut(t *testing.T) {
	v := count16()
	hs, e := pair.Put([]int{api.V128, api.I32, api.I64, api.V128}, v, pair.Of(64, 1<<40+7), pair.Of(64, 1<<40+8, 9), pair.Of(64, 3, 4))
	if e != 0 || !slices.Equal(hs, []uint64{0x0706050403020100, 0x0f0e0d0c0b0a0908, 7, 1<<40 + 8, 3, 4}) {
		t.Error(hs, e)
	}
	if hs, e := pair.Put(nil); len(hs) != 0 || e != 0 {
		t.Error(hs, e)
	}
	for _, bad := range [][]int{{5}, {}, {api.I32, api.I32}, {0x7d}, {0x7c}, {-1}, {0}} {
		if hs, e := pair.Put(bad, v); e != api.ErrArg || hs != nil {
			t.Error(bad, hs, e)
		}
	}
	if hs, e := pair.Put([]int{api.I32, 5}, v, v); e != api.ErrArg || hs != nil {
		t.Error(hs, e)
	}
}

// P2.4
func TestTake(t *testing.T) {
	vs, e := pair.Take([]int{api.I32, api.V128, api.I64}, 1<<40+7, 3, 4, 1<<40+8)
	if e != 0 || !slices.Equal(vs, []api.Vec{pair.Of(32, 7), pair.Of(64, 3, 4), pair.Of(64, 1<<40+8)}) {
		t.Error(vs, e)
	}
	if vs, e := pair.Take(nil); len(vs) != 0 || e != 0 {
		t.Error(vs, e)
	}
	for _, bad := range [][]int{{api.V128}, {5}, {}, {api.I32, api.I32}, {0x7d}} {
		if vs, e := pair.Take(bad, 1); e != api.ErrArg || vs != nil {
			t.Error(bad, vs, e)
		}
	}
	if vs, e := pair.Take([]int{api.I64, 6}, 1, 2); e != api.ErrArg || vs != nil {
		t.Error(vs, e)
	}
	if vs, e := pair.Take([]int{api.V128}, 1, 2, 3); e != api.ErrArg || vs != nil {
		t.Error(vs, e)
	}
}

// P2.5
func TestMemory(t *testing.T) {
	types, vals, halves, lanes := []int{api.V128, api.I32}, []api.Vec{count16(), pair.Of(32, 9)}, []uint64{1, 2, 3}, []uint64{1, 2, 3}
	one, _ := pair.Put(types, vals...)
	two, _ := pair.Put(types, vals...)
	one[0], one[2] = 77, 78
	three, _ := pair.Take(types, halves...)
	four, _ := pair.Take(types, halves...)
	three[0][0] = 77
	five, six := pair.All(vals[0], 8), pair.All(vals[0], 8)
	five[0] = 99
	pair.Of(32, lanes...)
	if two[0] == 77 || two[2] != 9 || four[0][0] != 1 || six[0] != 0 {
		t.Error("answers share memory")
	}
	if !slices.Equal(types, []int{api.V128, api.I32}) || vals[0] != count16() || vals[1] != pair.Of(32, 9) || !slices.Equal(halves, []uint64{1, 2, 3}) || !slices.Equal(lanes, []uint64{1, 2, 3}) {
		t.Error("what was handed in has changed")
	}
}
