package module

import (
	"unicode/utf8"

	"plait/api"
	"plait/expr"
	"plait/leb"
)

// anyNumber is the limit of a row that has none: as many as a number can tell.
const anyNumber = 1<<32 - 1

// reader goes through bytes that are read by themselves. What isn't as it must
// be it tells by a panic with an api.Errno, which Decode recovers.
type reader struct {
	bytes []byte
	at    int
}

// rows reads a row: how many things, at most most of them, and the things.
func rows[T any](r *reader, most int, one func() T) []T {
	n := r.number()
	if n > most {
		panic(api.ErrMany)
	}
	var all []T
	for range n {
		all = append(all, one())
	}
	return all
}

// done tells whether no byte is left.
func (r *reader) done() bool {
	return r.at == len(r.bytes)
}

// finish fails if bytes are left.
func (r *reader) finish() {
	if !r.done() {
		panic(api.ErrForm)
	}
}

// octet reads a byte.
func (r *reader) octet() byte {
	if r.done() {
		panic(api.ErrForm)
	}
	r.at++
	return r.bytes[r.at-1]
}

// expect reads a byte that can only be this one.
func (r *reader) expect(b byte) {
	if r.octet() != b {
		panic(api.ErrForm)
	}
}

// atMost reads a byte that can't be above most.
func (r *reader) atMost(most byte) int {
	b := r.octet()
	if b > most {
		panic(api.ErrForm)
	}
	return int(b)
}

// number reads a number without a sign of 32 bits.
func (r *reader) number() int {
	n, at, e := leb.U(r.bytes, r.at, 32)
	if e != api.OK {
		panic(api.ErrForm)
	}
	r.at = at
	return int(n)
}

// zero reads the number 0.
func (r *reader) zero() {
	if r.number() != 0 {
		panic(api.ErrForm)
	}
}

// part reads a size and hands out as many bytes, to be read by themselves.
func (r *reader) part() *reader {
	n := r.number()
	if n > len(r.bytes)-r.at {
		panic(api.ErrForm)
	}
	r.at += n
	return &reader{bytes: r.bytes[r.at-n : r.at]}
}

// name reads a row of bytes that are UTF-8.
func (r *reader) name() string {
	b := r.part().bytes
	if !utf8.Valid(b) {
		panic(api.ErrForm)
	}
	return string(b)
}

// value reads a type of a value.
func (r *reader) value() int {
	switch b := r.octet(); b {
	case api.I32, api.I64, api.V128:
		return int(b)
	case 0x7d, 0x7c:
		panic(api.ErrFloat)
	default:
		panic(api.ErrForm)
	}
}

// expression reads an expression.
func (r *reader) expression() []api.Instr {
	code, at, e := expr.Read(r.bytes, r.at)
	if e != api.OK {
		panic(e)
	}
	r.at = at
	return code
}
