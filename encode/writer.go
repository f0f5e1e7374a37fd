package encode

import (
	"unicode/utf8"

	"plait/api"
	"plait/expr"
	"plait/leb"
)

// writer is bytes that grow, and whether something that can't be was met.
type writer struct {
	bytes []byte
	wrong bool
}

// need notes what must be so.
func (w *writer) need(so bool) {
	w.wrong = w.wrong || !so
}

// octet writes a byte.
func (w *writer) octet(b byte) {
	w.bytes = append(w.bytes, b)
}

// number writes a number without a sign of 32 bits.
func (w *writer) number(n int) {
	w.need(n >= 0 && n <= 1<<32-1)
	w.bytes = append(w.bytes, leb.PutU(uint64(n))...)
}

// value writes a type of a value.
func (w *writer) value(t int) {
	w.need(t == api.I32 || t == api.I64 || t == api.V128)
	w.octet(byte(t))
}

// name writes a name.
func (w *writer) name(s string) {
	w.need(utf8.ValidString(s))
	w.number(len(s))
	w.bytes = append(w.bytes, s...)
}

// expression writes an expression.
func (w *writer) expression(code []api.Instr) {
	b, e := expr.Write(code)
	w.need(e == api.OK)
	w.bytes = append(w.bytes, b...)
}

// sized writes contents behind their size.
func (w *writer) sized(fill func(*writer)) {
	contents := &writer{}
	fill(contents)
	w.need(!contents.wrong)
	w.number(len(contents.bytes))
	w.bytes = append(w.bytes, contents.bytes...)
}

// section writes a section of so many things: its number, its size, its
// contents. Of no thing there is no section.
func (w *writer) section(id byte, things int, fill func(*writer)) {
	if things > 0 {
		w.octet(id)
		w.sized(fill)
	}
}
