package expr

import (
	"plait/api"
	"plait/instr"
	"plait/leb"
	"plait/ops"
	"plait/pair"
)

// reader goes through the bytes; its error is the first that was met.
type reader struct {
	bytes []byte
	at    int
	err   api.Errno
	nest
}

// Read reads the expression that stands in b from the place at on; the place
// behind it is answered beside it.
func Read(b []byte, at int) ([]api.Instr, int, api.Errno) {
	if at < 0 || at > len(b) {
		return nil, 0, api.ErrArg
	}
	r := &reader{bytes: b, at: at}
	var code []api.Instr
	for !r.closed {
		in := r.instruction()
		if r.err != api.OK {
			return nil, 0, r.err
		}
		code = append(code, in)
	}
	return code, r.at, api.OK
}

// fail keeps the first error.
func (r *reader) fail(e api.Errno) {
	if r.err == api.OK {
		r.err = e
	}
}

// octet reads a byte.
func (r *reader) octet() byte {
	if r.err != api.OK || r.at >= len(r.bytes) {
		r.fail(api.ErrForm)
		return 0
	}
	r.at++
	return r.bytes[r.at-1]
}

// number reads a number without a sign of 32 bits.
func (r *reader) number() int {
	n, at, e := leb.U(r.bytes, r.at, 32)
	if r.err != api.OK || e != api.OK {
		r.fail(api.ErrForm)
		return 0
	}
	r.at = at
	return int(n)
}

// signed reads a signed number of so many bits.
func (r *reader) signed(bits int) int64 {
	n, at, e := leb.S(r.bytes, r.at, bits)
	if r.err != api.OK || e != api.OK {
		r.fail(api.ErrForm)
		return 0
	}
	r.at = at
	return n
}

// instruction reads one instruction.
func (r *reader) instruction() api.Instr {
	op := r.opcode()
	info, ok := instr.Of(op)
	switch {
	case r.err != api.OK:
		return api.Instr{}
	case instr.Float(op):
		r.fail(api.ErrFloat)
	case !ok:
		r.fail(api.ErrForm)
	}
	in := api.Instr{Op: op}
	r.fields(&in, info.Form)
	if r.err == api.OK && info.Form == api.FormBlock && r.full() {
		r.fail(api.ErrMany)
	}
	if r.err == api.OK && !r.step(op, info.Form) {
		r.fail(api.ErrForm)
	}
	return in
}

// opcode reads what may be an opcode; it fails where the bytes have none.
func (r *reader) opcode() int {
	switch first := r.octet(); first {
	case vectorByte:
		return ops.Vectors + r.number()
	case otherByte:
		if n := r.number(); n < floats && r.err == api.OK {
			r.fail(api.ErrFloat)
		}
		r.fail(api.ErrForm)
		return 0
	default:
		return int(first)
	}
}

// fields reads what stands behind an opcode of that form.
func (r *reader) fields(in *api.Instr, form int) {
	switch form {
	case api.FormBlock:
		in.A = r.blockType()
	case api.FormLabel, api.FormIndex:
		in.A = r.number()
	case api.FormTable:
		for left := r.number(); left > 0 && r.err == api.OK; left-- {
			in.L = append(in.L, r.number())
		}
		in.A = r.number()
	case api.FormIndirect, api.FormMem:
		in.A = r.number()
		in.B = r.number()
	case api.FormMemLane:
		in.A = r.number()
		in.B = r.number()
		in.Lo = uint64(r.octet())
	case api.FormI32:
		in.Lo = uint64(uint32(r.signed(32)))
	case api.FormI64:
		in.Lo = uint64(r.signed(64))
	case api.FormV128, api.FormShuffle:
		h := r.halves()
		in.Lo, in.Hi = h.Lo, h.Hi
	case api.FormLane:
		in.A = int(r.octet())
	case api.FormZero:
		if r.octet() != 0 {
			r.fail(api.ErrForm)
		}
	}
}

// blockType reads a block's type: a byte for none or for a type of a value, or
// a type's number.
func (r *reader) blockType() int {
	if r.err == api.OK && r.at < len(r.bytes) {
		switch r.bytes[r.at] {
		case 0x40, api.I32, api.I64, api.V128:
			return int(r.signed(7))
		case 0x7d, 0x7c:
			r.fail(api.ErrFloat)
		}
	}
	n := r.signed(33)
	if n < 0 {
		r.fail(api.ErrForm)
	}
	return int(n)
}

// halves reads sixteen bytes.
func (r *reader) halves() api.Halves {
	var v api.Vec
	for i := range v {
		v[i] = r.octet()
	}
	return pair.Split(v)
}
