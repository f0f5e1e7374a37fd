// Package access does the loads and stores of whole numbers, as both engines
// have them.
package access

import (
	"plait/api"
)

// Memory is what is accessed.
type Memory interface {
	Load(at uint64, n int) (uint64, api.Errno)
	Store(at uint64, n int, x uint64) api.Errno
}

// Size tells how many bytes a load or store of a number accesses; 0, if op is
// none.
func Size(op int) int {
	switch op {
	case 0x2c, 0x2d, 0x30, 0x31, 0x3a, 0x3c:
		return 1
	case 0x2e, 0x2f, 0x32, 0x33, 0x3b, 0x3d:
		return 2
	case 0x28, 0x34, 0x35, 0x36, 0x3e:
		return 4
	case 0x29, 0x37:
		return 8
	}
	return 0
}

// Stores tells whether op is a store of a number.
func Stores(op int) bool {
	return op >= 0x36 && Size(op) != 0
}

// Load does a load of a number at a place.
func Load(m Memory, op int, place uint64) (uint64, api.Errno) {
	x, e := m.Load(place, Size(op))
	if e != api.OK {
		return 0, e
	}
	switch op {
	case 0x2c:
		x = uint64(uint32(int8(x)))
	case 0x2e:
		x = uint64(uint32(int16(x)))
	case 0x30:
		x = uint64(int8(x))
	case 0x32:
		x = uint64(int16(x))
	case 0x34:
		x = uint64(int32(x))
	}
	return x, api.OK
}

// Store does a store of a number at a place.
func Store(m Memory, op int, place uint64, x uint64) api.Errno {
	return m.Store(place, Size(op), x)
}
