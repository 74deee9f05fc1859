package wire

import "engrosser/api"

// Writer puts numbers and texts one behind the other.
type Writer struct{ stream }

// NewWriter makes one that has no bytes.
func NewWriter() *Writer { return &Writer{} }

// Number puts n in size bytes, the greatest first.
func (w *Writer) Number(n, size int) {
	if !w.needsSize(size) || !w.needs(n >= 0 && n>>(8*size) == 0, api.ErrArg) {
		return
	}
	for left := size - 1; left >= 0; left-- {
		w.bytes = append(w.bytes, byte(n>>(8*left)))
	}
}

// Raw puts s as it is.
func (w *Writer) Raw(s string) {
	if w.fault == api.OK {
		w.bytes = append(w.bytes, s...)
	}
}

// Opaque puts how many bytes s has, in size bytes, and s.
func (w *Writer) Opaque(s string, size int) {
	w.Number(len(s), size)
	w.Raw(s)
}

// Bytes answers all that was put, or the first error.
func (w *Writer) Bytes() (string, api.Errno) { return string(w.bytes), w.fault }
