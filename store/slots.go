package store

import (
	"slices"

	"plait/api"
)

// slots are the halves of all globals, one global behind the other.
type slots struct {
	halves []uint64
	narrow []bool // of each half, whether it is an i32's
	first  []int  // of each global its first half
}

// add adds a global, which begins as its constant says.
func (s *slots) add(g api.Global) {
	s.first = append(s.first, len(s.halves))
	s.halves = append(s.halves, g.Init[0].Lo)
	s.narrow = append(s.narrow, g.Type == api.I32)
	if g.Type == api.V128 {
		s.halves = append(s.halves, g.Init[0].Hi)
		s.narrow = append(s.narrow, false)
	}
}

// place tells the first half of the global g, and how many it has.
func (s *slots) place(g int) (int, int) {
	if g < 0 || g >= len(s.first) {
		return 0, 0
	}
	end := len(s.halves)
	if g+1 < len(s.first) {
		end = s.first[g+1]
	}
	return s.first[g], end - s.first[g]
}

// get gives the half k, if there is one.
func (s *slots) get(k int) (uint64, bool) {
	if k < 0 || k >= len(s.halves) {
		return 0, false
	}
	return s.halves[k], true
}

// set lays x into the half k, if there is one; of an i32 its 32 bits.
func (s *slots) set(k int, x uint64) bool {
	if k < 0 || k >= len(s.halves) {
		return false
	}
	if s.narrow[k] {
		x = uint64(uint32(x))
	}
	s.halves[k] = x
	return true
}

// clone makes slots of their own. Where the globals lie never changes, so that
// is shared.
func (s *slots) clone() slots {
	return slots{halves: slices.Clone(s.halves), narrow: s.narrow, first: s.first}
}
