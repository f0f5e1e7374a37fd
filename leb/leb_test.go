package leb_test

import (
	"bytes"
	"math"
	"math/big"
	"testing"

	"plait/api"
	"plait/leb"
)

// oracle reads a number by the words of P1.1 and P1.2, over numbers without end.
func oracle(b []byte, at, bits int, signed bool) (*big.Int, int, api.Errno) {
	if bits < 1 || bits > 64 || at < 0 || at > len(b) {
		return nil, 0, api.ErrArg
	}
	sum := new(big.Int)
	for k := 0; ; k++ {
		if at+k >= len(b) {
			return nil, 0, api.ErrShort
		}
		c := b[at+k]
		ones, zeros := 0, 0
		for j := 0; j < 7; j++ {
			bit := int(c >> j & 1)
			if signed && 7*(k+1) >= bits && 7*k+j >= bits-1 || !signed && 7*k+j >= bits {
				ones += bit
				zeros += 1 - bit
			}
			sum.Add(sum, new(big.Int).Lsh(big.NewInt(int64(bit)), uint(7*k+j)))
		}
		if !signed && ones > 0 || signed && ones > 0 && zeros > 0 {
			return nil, 0, api.ErrLeb
		}
		if 7*(k+1) >= bits && c >= 0x80 {
			return nil, 0, api.ErrLeb
		}
		if c < 0x80 {
			if signed && c&0x40 != 0 {
				sum.Sub(sum, new(big.Int).Lsh(big.NewInt(1), uint(7*(k+1))))
			}
			return sum, at + k + 1, api.OK
		}
	}
}

func agree(t *testing.T, b []byte, at, bits int) {
	t.Helper()
	n, to, e := leb.U(b, at, bits)
	want, wto, we := oracle(b, at, bits, false)
	if want == nil {
		want = new(big.Int)
	}
	if new(big.Int).SetUint64(n).Cmp(want) != 0 || to != wto || e != we {
		t.Fatalf("U(% x, %d, %d): %d, %d, %d; want %v, %d, %d", b, at, bits, n, to, e, want, wto, we)
	}
	s, to, e := leb.S(b, at, bits)
	want, wto, we = oracle(b, at, bits, true)
	if want == nil {
		want = new(big.Int)
	}
	if big.NewInt(s).Cmp(want) != 0 || to != wto || e != we {
		t.Fatalf("S(% x, %d, %d): %d, %d, %d; want %v, %d, %d", b, at, bits, s, to, e, want, wto, we)
	}
}

// P1.1, P1.2: rows of one and two bytes, all of them, at widths about their ends.
func TestReadShort(t *testing.T) {
	for x := range 256 {
		for _, bits := range []int{-1, 0, 1, 2, 5, 6, 7, 8, 13, 14, 15, 32, 33, 64, 65} {
			agree(t, []byte{byte(x)}, 0, bits)
			for y := range 256 {
				agree(t, []byte{byte(x), byte(y)}, 0, bits)
			}
		}
	}
}

// P1.1, P1.2: rows about as long as may be, whose last bytes vary, at every
// width.
func TestReadLong(t *testing.T) {
	for bits := range 66 {
		for length := max(bits/7-2, 0); length <= bits/7+1; length++ {
			for _, fill := range []byte{0x80, 0xff, 0xaa} {
				for last := range 256 {
					b := append(bytes.Repeat([]byte{fill}, length), byte(last))
					agree(t, b, 0, bits)
					agree(t, b[:length], 0, bits)
				}
			}
		}
	}
}

// P1.1, P1.2: places, the ends too.
func TestReadPlaces(t *testing.T) {
	b := []byte{0x80, 0x81, 0x02, 0x7f, 0x80}
	for at := -2; at < 8; at++ {
		for _, bits := range []int{0, 1, 7, 14, 15, 21, 64, 65} {
			agree(t, b, at, bits)
		}
	}
	for _, at := range []int{math.MinInt, math.MaxInt} {
		agree(t, b, at, 32)
		agree(t, b, 0, at)
	}
	agree(t, nil, 0, 32)
	agree(t, nil, 1, 32)
}

func TestReadExamples(t *testing.T) {
	if n, to, e := leb.U([]byte{0xe5, 0x8e, 0x26}, 0, 32); n != 624485 || to != 3 || e != 0 {
		t.Error(n, to, e)
	}
	if n, to, e := leb.U([]byte{0xff, 0xff, 0xff, 0xff, 0x0f}, 0, 32); n != 1<<32-1 || to != 5 || e != 0 {
		t.Error(n, to, e)
	}
	if n, to, e := leb.S([]byte{0xc0, 0xbb, 0x78}, 0, 32); n != -123456 || to != 3 || e != 0 {
		t.Error(n, to, e)
	}
	if _, _, e := leb.S([]byte{0xff, 0xff, 0xff, 0xff, 0x4f}, 0, 32); e != api.ErrLeb {
		t.Error(e)
	}
}

// P1.3: what is put is read again, with 64 bits, and is the shortest.
func TestPut(t *testing.T) {
	us, ss := []uint64{0, 1, math.MaxUint64}, []int64{0, math.MinInt64, math.MaxInt64}
	for k := range 64 {
		for d := -2; d <= 2; d++ {
			us = append(us, uint64(1)<<k+uint64(d))
			ss = append(ss, int64(1)<<k+int64(d), -(int64(1)<<k)+int64(d))
		}
	}
	for _, n := range us {
		b := leb.PutU(n)
		if m, to, e := leb.U(b, 0, 64); m != n || to != len(b) || e != 0 {
			t.Fatalf("%d: % x", n, b)
		}
		if len(b) > 1 && b[len(b)-1] == 0 {
			t.Fatalf("%d: % x isn't the shortest", n, b)
		}
	}
	for _, n := range ss {
		b := leb.PutS(n)
		if m, to, e := leb.S(b, 0, 64); m != n || to != len(b) || e != 0 {
			t.Fatalf("%d: % x", n, b)
		}
		if k := len(b) - 1; k > 0 && (b[k] == 0 && b[k-1]&0x40 == 0 || b[k] == 0x7f && b[k-1]&0x40 != 0) {
			t.Fatalf("%d: % x isn't the shortest", n, b)
		}
	}
}

// P1.3: rows stand one behind the other; of no number there is no byte.
func TestPutRows(t *testing.T) {
	if b := leb.PutU(624485, 0, 128); !bytes.Equal(b, []byte{0xe5, 0x8e, 0x26, 0, 0x80, 1}) {
		t.Errorf("% x", b)
	}
	if b := leb.PutS(-123456, 63, 64, -64, -65); !bytes.Equal(b, []byte{0xc0, 0xbb, 0x78, 0x3f, 0xc0, 0, 0x40, 0xbf, 0x7f}) {
		t.Errorf("% x", b)
	}
	if len(leb.PutU()) != 0 || len(leb.PutS()) != 0 {
		t.Error("of nothing something")
	}
}

// P1.4: longer forms are read; lists stay; answers are new memory.
func TestMemory(t *testing.T) {
	b := []byte{0x80, 0x00, 9}
	if n, to, e := leb.U(b, 0, 32); n != 0 || to != 2 || e != 0 {
		t.Error(n, to, e)
	}
	if n, to, e := leb.S([]byte{0xff, 0xff, 0x7f}, 0, 32); n != -1 || to != 3 || e != 0 {
		t.Error(n, to, e)
	}
	if !bytes.Equal(b, []byte{0x80, 0x00, 9}) {
		t.Error("the bytes have changed")
	}
	us, ss := []uint64{300, 2}, []int64{-300, 2}
	one, two := leb.PutU(us...), leb.PutU(us...)
	one[0] = 0
	if two[0] == 0 || us[0] != 300 {
		t.Error("PutU shares memory")
	}
	three, four := leb.PutS(ss...), leb.PutS(ss...)
	three[0] = 0
	if four[0] == 0 || ss[0] != -300 {
		t.Error("PutS shares memory")
	}
}
