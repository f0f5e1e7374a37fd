// Package leb reads and writes whole numbers as rows of seven bits, the lowest
// seven first (layer 1).
package leb

import (
	"plait/api"
)

const (
	low  = 0x7f // the bits of a byte that count
	more = 0x80 // another byte follows
	sign = 0x40 // the highest bit that counts in a byte
)

// U reads the number without a sign, of that many bits, that stands in b from
// the place at on; the place behind it is answered beside it.
func U(b []byte, at int, bits int) (uint64, int, api.Errno) {
	sum, _, at, e := read(b, at, bits, func(c byte, left int) bool {
		return left >= 7 || c>>left == 0
	})
	return sum, at, e
}

// S reads the number in two's complement, of that many bits, that stands in b
// from the place at on; the place behind it is answered beside it.
func S(b []byte, at int, bits int) (int64, int, api.Errno) {
	sum, width, at, e := read(b, at, bits, func(c byte, left int) bool {
		high := c >> (left - 1)
		return left > 7 || high == 0 || high == byte(low)>>(left-1)
	})
	// The highest bit that was read is the sign, and stands for all above it.
	if width > 0 && width < 64 && sum>>(width-1) == 1 {
		sum |= ^uint64(0) << width
	}
	return int64(sum), at, e
}

// PutU writes the numbers in their shortest forms, one behind the other.
func PutU(ns ...uint64) []byte {
	var out []byte
	for _, n := range ns {
		for n > low {
			out = append(out, byte(n&low)|more)
			n >>= 7
		}
		out = append(out, byte(n))
	}
	return out
}

// PutS writes the numbers in two's complement in their shortest forms, one
// behind the other.
func PutS(ns ...int64) []byte {
	var out []byte
	for _, n := range ns {
		// A last byte's bit 6 is the sign, so -64 to 63 fit in one.
		for n < -sign || n >= sign {
			out = append(out, byte(n&low)|more)
			n >>= 7
		}
		out = append(out, byte(n&low))
	}
	return out
}

// read reads a row of bytes for a number of that many bits. Of each byte the
// lower seven bits are shown to fits, with the number of bits that are left for
// them and for what follows. It answers their sum, how many bits were read, and
// the place behind.
func read(b []byte, at, bits int, fits func(c byte, left int) bool) (uint64, int, int, api.Errno) {
	if bits < 1 || bits > 64 || at < 0 || at > len(b) {
		return 0, 0, 0, api.ErrArg
	}
	var sum uint64
	for shift := 0; ; shift += 7 {
		if at == len(b) {
			return 0, 0, 0, api.ErrShort
		}
		c := b[at]
		at++
		left := bits - shift
		if !fits(c&low, left) || left <= 7 && c&more != 0 {
			return 0, 0, 0, api.ErrLeb
		}
		sum |= uint64(c&low) << shift
		if c&more == 0 {
			return sum, shift + 7, at, api.OK
		}
	}
}
