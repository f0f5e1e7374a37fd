package num_test

import (
	"math"
	"math/big"
	"strings"
	"testing"

	"plait/api"
	"plait/num"
)

var names = map[int]string{
	0x45: "eqz", 0x46: "eq", 0x47: "ne", 0x48: "lt_s", 0x49: "lt_u", 0x4a: "gt_s", 0x4b: "gt_u", 0x4c: "le_s", 0x4d: "le_u", 0x4e: "ge_s", 0x4f: "ge_u",
	0x67: "clz", 0x68: "ctz", 0x69: "popcnt", 0x6a: "add", 0x6b: "sub", 0x6c: "mul", 0x6d: "div_s", 0x6e: "div_u", 0x6f: "rem_s", 0x70: "rem_u",
	0x71: "and", 0x72: "or", 0x73: "xor", 0x74: "shl", 0x75: "shr_s", 0x76: "shr_u", 0x77: "rotl", 0x78: "rotr",
	0x50: "eqz64", 0x51: "eq64", 0x52: "ne64", 0x53: "lt_s64", 0x54: "lt_u64", 0x55: "gt_s64", 0x56: "gt_u64", 0x57: "le_s64", 0x58: "le_u64", 0x59: "ge_s64", 0x5a: "ge_u64",
	0x79: "clz64", 0x7a: "ctz64", 0x7b: "popcnt64", 0x7c: "add64", 0x7d: "sub64", 0x7e: "mul64", 0x7f: "div_s64", 0x80: "div_u64", 0x81: "rem_s64", 0x82: "rem_u64",
	0x83: "and64", 0x84: "or64", 0x85: "xor64", 0x86: "shl64", 0x87: "shr_s64", 0x88: "shr_u64", 0x89: "rotl64", 0x8a: "rotr64",
	0xa7: "wrap64", 0xac: "extend_s", 0xad: "extend_u", 0xc0: "low8", 0xc1: "low16", 0xc2: "low8of64", 0xc3: "low16of64", 0xc4: "low32of64",
}

var unary = map[int]bool{0x45: true, 0x50: true, 0x67: true, 0x68: true, 0x69: true, 0x79: true, 0x7a: true, 0x7b: true,
	0xa7: true, 0xac: true, 0xad: true, 0xc0: true, 0xc1: true, 0xc2: true, 0xc3: true, 0xc4: true}

func pow(n int) *big.Int { return new(big.Int).Lsh(big.NewInt(1), uint(n)) }

// low is x modulo 2^n; sign is that number in two's complement.
func low(x *big.Int, n int) *big.Int { return new(big.Int).Mod(x, pow(n)) }

func sign(x *big.Int, n int) *big.Int {
	y := low(x, n)
	if y.Bit(n-1) == 1 {
		y.Sub(y, pow(n))
	}
	return y
}

func yes(b bool) *big.Int {
	if b {
		return big.NewInt(1)
	}
	return new(big.Int)
}

// count counts the bits of x (of n bits) from one end on, or the ones.
func count(x *big.Int, n int, how string) *big.Int {
	var s strings.Builder
	for i := n - 1; i >= 0; i-- {
		s.WriteByte('0' + byte(x.Bit(i)))
	}
	switch text := s.String(); how {
	case "clz":
		return big.NewInt(int64(len(text) - len(strings.TrimLeft(text, "0"))))
	case "ctz":
		return big.NewInt(int64(len(text) - len(strings.TrimRight(text, "0"))))
	default:
		return big.NewInt(int64(strings.Count(text, "1")))
	}
}

func oracle1(op int, x uint64) uint64 {
	name, n := strings.CutSuffix(names[op], "64")
	bits := 32
	if n {
		bits = 64
	}
	v := new(big.Int).SetUint64(x)
	l := low(v, bits)
	switch name {
	case "eqz":
		return yes(l.Sign() == 0).Uint64()
	case "clz", "ctz", "popcnt":
		return count(l, bits, name).Uint64()
	case "wrap", "extend_u":
		return low(v, 32).Uint64()
	case "extend_s", "low32of":
		return low(sign(v, 32), 64).Uint64()
	case "low8", "low8of":
		return low(sign(v, 8), bits).Uint64()
	}
	return low(sign(v, 16), bits).Uint64()
}

func oracle2(op int, x, y uint64) (uint64, api.Errno) {
	name, wide := strings.CutSuffix(names[op], "64")
	n := 32
	if wide {
		n = 64
	}
	bx, by := low(new(big.Int).SetUint64(x), n), low(new(big.Int).SetUint64(y), n)
	sx, sy := sign(bx, n), sign(by, n)
	ax, ay, isSigned := bx, by, strings.HasSuffix(name, "_s")
	if isSigned {
		ax, ay = sx, sy
	}
	if strings.HasPrefix(name, "div") || strings.HasPrefix(name, "rem") {
		if by.Sign() == 0 {
			return 0, api.TrapZero
		}
		q, r := new(big.Int).QuoRem(ax, ay, new(big.Int))
		if strings.HasPrefix(name, "rem") {
			return low(r, n).Uint64(), 0
		}
		if isSigned && q.Cmp(pow(n-1)) == 0 {
			return 0, api.TrapOver
		}
		return low(q, n).Uint64(), 0
	}
	return low(plain(name, ax, ay, bx, by, n), n).Uint64(), 0
}

func plain(name string, ax, ay, bx, by *big.Int, n int) *big.Int {
	z := new(big.Int)
	k := int(new(big.Int).Mod(by, big.NewInt(int64(n))).Int64())
	c := ax.Cmp(ay)
	switch strings.TrimSuffix(strings.TrimSuffix(name, "_s"), "_u") {
	case "eq":
		return yes(c == 0)
	case "ne":
		return yes(c != 0)
	case "lt":
		return yes(c < 0)
	case "gt":
		return yes(c > 0)
	case "le":
		return yes(c <= 0)
	case "ge":
		return yes(c >= 0)
	case "add":
		return z.Add(bx, by)
	case "sub":
		return z.Sub(bx, by)
	case "mul":
		return z.Mul(bx, by)
	case "and":
		return z.And(bx, by)
	case "or":
		return z.Or(bx, by)
	case "xor":
		return z.Xor(bx, by)
	case "shl":
		return z.Lsh(bx, uint(k))
	case "shr":
		return z.Rsh(ax, uint(k))
	case "rotl":
		return z.Or(z.Lsh(bx, uint(k)), new(big.Int).Rsh(bx, uint(n-k)))
	case "rotr":
		return z.Or(z.Lsh(bx, uint(n-k)), new(big.Int).Rsh(bx, uint(k)))
	}
	panic(name)
}

func samples() []uint64 {
	xs := []uint64{0, 0x123456789abcdef0, 0xfedcba9876543210, 0x8000000080000000, 0x7fffffff7fffffff, 0x5555555555555555}
	for _, k := range []int{0, 1, 2, 5, 7, 8, 15, 16, 31, 32, 33, 40, 47, 62, 63} {
		xs = append(xs, 1<<k, 1<<k-1, 1<<k+1, -(uint64(1) << k), ^(uint64(1) << k))
	}
	return xs
}

// P3.1
func TestArity(t *testing.T) {
	for op := -300; op < 0x300; op++ {
		want := 0
		if names[op] != "" {
			want = 2
		}
		if unary[op] {
			want = 1
		}
		if num.Arity(op) != want {
			t.Errorf("%x: %d", op, num.Arity(op))
		}
	}
	for _, op := range []int{math.MinInt, math.MaxInt, 0xfd6e, 1<<32 + 0x6a, -1<<32 + 0x45} {
		if num.Arity(op) != 0 {
			t.Errorf("%x", op)
		}
	}
}

// P3.2
func TestUn(t *testing.T) {
	for op := range names {
		for _, x := range samples() {
			z, e := num.Un(op, x)
			if !unary[op] {
				if z != 0 || e != api.ErrArg {
					t.Fatalf("%x", op)
				}
			} else if want := oracle1(op, x); z != want || e != 0 {
				t.Errorf("%s %x: %x, want %x", names[op], x, z, want)
			}
		}
	}
}

// P3.2
func TestBin(t *testing.T) {
	for op := range names {
		for _, x := range samples() {
			for _, y := range samples() {
				z, e := num.Bin(op, x, y)
				if unary[op] {
					if z != 0 || e != api.ErrArg {
						t.Fatalf("%x", op)
					}
				} else if want, we := oracle2(op, x, y); z != want || e != we {
					t.Fatalf("%s %x %x: %x %d, want %x %d", names[op], x, y, z, e, want, we)
				}
			}
		}
	}
}

// P3.2: the document's examples.
func TestExamples(t *testing.T) {
	rows := []struct {
		op      int
		x, y, z uint64
		e       api.Errno
	}{
		{0x6a, 1<<32 - 1, 1, 0, 0}, {0x6d, 1 << 31, 1<<32 - 1, 0, api.TrapOver}, {0x6f, 1 << 31, 1<<32 - 1, 0, 0}, {0x7f, 1<<64 - 7, 2, 1<<64 - 3, 0},
		{0x81, 1<<64 - 7, 2, 1<<64 - 1, 0}, {0x6e, 1, 1 << 32, 0, api.TrapZero}, {0x74, 1, 33, 2, 0}, {0x75, 1 << 31, 31, 1<<32 - 1, 0},
		{0x77, 1 << 31, 1, 1, 0}, {0x48, 1<<32 - 1, 0, 1, 0}, {0x49, 1<<32 - 1, 0, 0, 0}, {0x45, 1, 1, 0, api.ErrArg}, {0, 1, 1, 0, api.ErrArg},
		{0x7f, 1 << 63, 1<<64 - 1, 0, api.TrapOver}, {0x81, 1 << 63, 1<<64 - 1, 0, 0}, {0x82, 5, 0, 0, api.TrapZero}, {-1, 5, 0, 0, api.ErrArg},
	}
	for _, r := range rows {
		if z, e := num.Bin(r.op, r.x, r.y); z != r.z || e != r.e {
			t.Errorf("%x %x %x: %x %d", r.op, r.x, r.y, z, e)
		}
	}
	ones := []struct {
		op   int
		x, z uint64
		e    api.Errno
	}{
		{0x67, 1, 31, 0}, {0x7a, 0, 64, 0}, {0x68, 0, 32, 0}, {0xa7, 1<<40 + 5, 5, 0}, {0xac, 1 << 31, 1<<64 - 1<<31, 0}, {0xc0, 128, 1<<32 - 128, 0},
		{0xc2, 128, 1<<64 - 128, 0}, {0x6a, 1, 0, api.ErrArg}, {0, 1, 0, api.ErrArg}, {math.MaxInt, 1, 0, api.ErrArg},
	}
	for _, r := range ones {
		if z, e := num.Un(r.op, r.x); z != r.z || e != r.e {
			t.Errorf("%x %x: %x %d", r.op, r.x, z, e)
		}
	}
}
