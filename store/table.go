package store

import (
	"slices"
)

// nobody stands in a place without a function.
const nobody = -1

// table is places for functions' numbers.
type table struct {
	places []int
}

// makeEmpty makes so many places, all of them empty.
func (t *table) makeEmpty(n int) {
	t.places = slices.Repeat([]int{nobody}, n)
}

// lay lays functions from a place on, if they fit.
func (t *table) lay(from uint64, funcs []int) bool {
	if from+uint64(len(funcs)) > uint64(len(t.places)) {
		return false
	}
	copy(t.places[from:], funcs)
	return true
}

// at gives the function at a place, if there is one.
func (t *table) at(i uint32) (int, bool) {
	if uint64(i) >= uint64(len(t.places)) || t.places[i] == nobody {
		return 0, false
	}
	return t.places[i], true
}

// clone makes a table of its own.
func (t *table) clone() table {
	return table{places: slices.Clone(t.places)}
}
