// Package leb reads and writes whole numbers as rows of seven bits, the lowest
// seven first (layer 1).
package leb

import (
	"plait/api"
)

const (
	low  = 0x7f // the bits of a byte that count
	more = 0x80 // another byte follows
	sign = 0x40 // the highest bit that counts in a byte
)

// U reads the number without a sign, of that many bits, that stands in b from
// the place at on; the place behind it is answered beside it.
func U(b []byte, at int, bits int) (uint64, int, api.Errno) {
	if !fits(b, at, bits) {
		return 0, 0, api.ErrArg
	}
	var sum uint64
	for shift := 0; ; shift += 7 {
		if at == len(b) {
			return 0, 0, api.ErrShort
		}
		c := b[at]
		at++
		left := bits - shift
		if left < 7 && c&low>>left != 0 || left <= 7 && c&more != 0 {
			return 0, 0, api.ErrLeb
		}
		sum |= uint64(c&low) << shift
		if c&more == 0 {
			return sum, at, api.OK
		}
	}
}

// S reads the number in two's complement, of that many bits, that stands in b
// from the place at on; the place behind it is answered beside it.
func S(b []byte, at int, bits int) (int64, int, api.Errno) {
	if !fits(b, at, bits) {
		return 0, 0, api.ErrArg
	}
	var sum uint64
	for shift := 0; ; shift += 7 {
		if at == len(b) {
			return 0, 0, api.ErrShort
		}
		c := b[at]
		at++
		left := bits - shift
		if left <= 7 && (c&more != 0 || !even(c&low, left-1)) {
			return 0, 0, api.ErrLeb
		}
		sum |= uint64(c&low) << shift
		if c&more == 0 {
			return extend(sum, c, shift+7), at, api.OK
		}
	}
}

// PutU writes the numbers in their shortest forms, one behind the other.
func PutU(ns ...uint64) []byte {
	var out []byte
	for _, n := range ns {
		for n > low {
			out = append(out, byte(n&low)|more)
			n >>= 7
		}
		out = append(out, byte(n))
	}
	return out
}

// PutS writes the numbers in two's complement in their shortest forms, one
// behind the other.
func PutS(ns ...int64) []byte {
	var out []byte
	for _, n := range ns {
		// A last byte's bit 6 is the sign, so -64 to 63 fit in one.
		for n < -sign || n >= sign {
			out = append(out, byte(n&low)|more)
			n >>= 7
		}
		out = append(out, byte(n&low))
	}
	return out
}

// fits tells whether a number of that many bits may be asked for at that place.
func fits(b []byte, at int, bits int) bool {
	return bits >= 1 && bits <= 64 && at >= 0 && at <= len(b)
}

// even tells whether the seven bits c are all alike from the bit number from on.
func even(c byte, from int) bool {
	high := c >> from
	return high == 0 || high == byte(low)>>from
}

// extend gives sum, whose last byte was c, the sign of c in all bits from the
// bit number width on.
func extend(sum uint64, c byte, width int) int64 {
	if c&sign != 0 && width < 64 {
		sum |= ^uint64(0) << width
	}
	return int64(sum)
}
