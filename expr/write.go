package expr

import (
	"plait/api"
	"plait/instr"
	"plait/leb"
	"plait/ops"
	"plait/pair"
)

const highest = 1<<32 - 1 // the highest number without a sign of 32 bits

// Write gives the shortest bytes of an expression.
func Write(code []api.Instr) ([]byte, api.Errno) {
	var n nest
	var out []byte
	for _, in := range code {
		info, ok := instr.Of(in.Op)
		if !ok || !fits(in, info.Form) || info.Form == api.FormBlock && n.full() || !n.step(in.Op, info.Form) {
			return nil, api.ErrArg
		}
		out = append(out, opcode(in.Op)...)
		out = append(out, fields(in, info.Form)...)
	}
	if !n.closed {
		return nil, api.ErrArg
	}
	return out, api.OK
}

// fits tells whether each field lies in the range of its bytes, and those that
// the form doesn't use are zero.
func fits(in api.Instr, form int) bool {
	rest := in // what the form doesn't use
	ok := true
	switch form {
	case api.FormBlock:
		ok = index(in.A) || in.A == api.Empty || in.A == justI32 || in.A == justI64 || in.A == justV128
		rest.A = 0
	case api.FormLabel, api.FormIndex:
		ok = index(in.A)
		rest.A = 0
	case api.FormTable:
		ok = index(in.A)
		for _, l := range in.L {
			ok = ok && index(l)
		}
		rest.A, rest.L = 0, nil
	case api.FormIndirect, api.FormMem:
		ok = index(in.A) && index(in.B)
		rest.A, rest.B = 0, 0
	case api.FormMemLane:
		ok = index(in.A) && index(in.B) && in.Lo <= 255
		rest.A, rest.B, rest.Lo = 0, 0, 0
	case api.FormI32:
		ok = in.Lo <= highest
		rest.Lo = 0
	case api.FormI64:
		rest.Lo = 0
	case api.FormV128, api.FormShuffle:
		rest.Lo, rest.Hi = 0, 0
	case api.FormLane:
		ok = in.A >= 0 && in.A <= 255
		rest.A = 0
	}
	return ok && rest.A == 0 && rest.B == 0 && rest.Lo == 0 && rest.Hi == 0 && len(rest.L) == 0
}

// index tells whether n is a number without a sign of 32 bits.
func index(n int) bool {
	return n >= 0 && n <= highest
}

// opcode gives an opcode's bytes.
func opcode(op int) []byte {
	if op < ops.Vectors {
		return []byte{byte(op)}
	}
	return append([]byte{vectorByte}, leb.PutU(uint64(op-ops.Vectors))...)
}

// fields gives the bytes of what stands behind an opcode of that form.
func fields(in api.Instr, form int) []byte {
	a, b := uint64(in.A), uint64(in.B)
	switch form {
	case api.FormBlock:
		return leb.PutS(int64(in.A))
	case api.FormLabel, api.FormIndex:
		return leb.PutU(a)
	case api.FormTable:
		return table(in)
	case api.FormIndirect, api.FormMem:
		return leb.PutU(a, b)
	case api.FormMemLane:
		return append(leb.PutU(a, b), byte(in.Lo))
	case api.FormI32:
		return leb.PutS(int64(int32(in.Lo)))
	case api.FormI64:
		return leb.PutS(int64(in.Lo))
	case api.FormV128, api.FormShuffle:
		v := pair.Join(api.Halves{Lo: in.Lo, Hi: in.Hi})
		return v[:]
	case api.FormLane:
		return []byte{byte(in.A)}
	case api.FormZero:
		return []byte{0}
	}
	return nil
}

// table gives the bytes of a row of labels and of one more.
func table(in api.Instr) []byte {
	out := leb.PutU(uint64(len(in.L)))
	for _, l := range in.L {
		out = append(out, leb.PutU(uint64(l))...)
	}
	return append(out, leb.PutU(uint64(in.A))...)
}
