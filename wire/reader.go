package wire

import "engrosser/api"

// Reader takes what a Writer wrote from the front of a text.
type Reader struct{ stream }

// NewReader makes one that has the bytes of s.
func NewReader(s string) *Reader { return &Reader{stream{bytes: []byte(s)}} }

// Number takes one of size bytes, the greatest first.
func (r *Reader) Number(size int) int {
	if !r.needsSize(size) {
		return 0
	}
	n := 0
	for _, b := range r.take(size) {
		n = n<<8 | int(b)
	}
	return n
}

// Raw takes n bytes as they are.
func (r *Reader) Raw(n int) string { return string(r.take(n)) }

// Opaque takes how many bytes there are, in size bytes, and these.
func (r *Reader) Opaque(size int) string { return r.Raw(r.Number(size)) }

// Rest answers how many bytes are there yet.
func (r *Reader) Rest() int { return len(r.bytes) }

// End answers the first error, or whether all was read. Bytes that are there yet are no error of the reader: it may read on.
func (r *Reader) End() api.Errno {
	if r.Rest() > 0 {
		return api.ErrForm
	}
	return r.fault
}

// take takes the first n bytes, or none where these cannot be.
func (r *Reader) take(n int) []byte {
	if !r.needs(n >= 0, api.ErrArg) || !r.needs(n <= len(r.bytes), api.ErrForm) {
		return nil
	}
	first := r.bytes[:n]
	r.bytes = r.bytes[n:]
	return first
}
