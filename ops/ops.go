// Package ops names the opcodes of the language that steer, that move values,
// and that are constants.
package ops

// Control.
const (
	Unreachable  = 0x00
	Nop          = 0x01
	Block        = 0x02
	Loop         = 0x03
	If           = 0x04
	Else         = 0x05
	End          = 0x0b
	Br           = 0x0c
	BrIf         = 0x0d
	BrTable      = 0x0e
	Return       = 0x0f
	Call         = 0x10
	CallIndirect = 0x11
)

// Values, locals and globals.
const (
	Drop      = 0x1a
	Select    = 0x1b
	LocalGet  = 0x20
	LocalSet  = 0x21
	LocalTee  = 0x22
	GlobalGet = 0x23
	GlobalSet = 0x24
)

// The memory as a whole, and constants.
const (
	MemorySize = 0x3f
	MemoryGrow = 0x40
	ConstI32   = 0x41
	ConstI64   = 0x42
	ConstV128  = Vectors + 0x0c
)

// Vectors is the first opcode of the vectors' instructions.
const Vectors = 0xfd00
