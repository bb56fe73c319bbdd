// Package wire puts encodings together from integers and bytes, and takes them apart. Package bin does the single steps;
// here their errors are gathered, so that a caller asks once, at the end.
package wire

import (
	"bytes"

	"cellarer/api"
	"cellarer/bin"
)

// Writer is an encoding that is put together. The zero Writer is empty.
type Writer struct {
	b   []byte
	bad bool
}

// Number appends n in size bytes.
func (w *Writer) Number(n, size int) {
	b, e := bin.Put(nil, n, size)
	w.bad = w.bad || e != api.OK
	w.b = append(w.b, b...)
}

// Bytes appends b.
func (w *Writer) Bytes(b []byte) { w.b = append(w.b, b...) }

// Result returns the encoding; ok tells that every number fitted into its bytes.
func (w *Writer) Result() (b []byte, ok bool) {
	if w.bad {
		return nil, false
	}
	return w.b, true
}

// Reader is an encoding that is taken apart.
type Reader struct {
	b   []byte
	at  int
	bad bool
}

// NewReader returns a Reader of b.
func NewReader(b []byte) *Reader { return &Reader{b: b} }

// Number returns the number in the next size bytes, and 0 if there are fewer.
func (r *Reader) Number(size int) int {
	n, next, e := bin.Get(r.b, r.at, size)
	if r.bad || e != api.OK {
		r.bad = true
		return 0
	}
	r.at = next
	return n
}

// Bytes returns the next n bytes in new memory, and none if there are fewer.
func (r *Reader) Bytes(n int) []byte {
	r.bad = r.bad || n < 0 || n > len(r.b)-r.at
	if r.bad || n == 0 {
		return nil
	}
	b := bytes.Clone(r.b[r.at : r.at+n])
	r.at += n
	return b
}

// Id returns the id in the next bytes, and the zero id if there are fewer.
func (r *Reader) Id() (id [32]byte) {
	copy(id[:], r.Bytes(len(id)))
	return id
}

// Refuse makes the encoding one that cannot be read.
func (r *Reader) Refuse() { r.bad = true }

// Good reports whether everything could be read so far.
func (r *Reader) Good() bool { return !r.bad }

// Whole reports whether everything could be read and nothing is left.
func (r *Reader) Whole() bool { return !r.bad && r.at == len(r.b) }
