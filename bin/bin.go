// Package bin is layer 1: fixed-size integers and length-prefixed byte strings (../shared/doc/01-bin.md).
package bin

import "cellarer/api"

// maxSize is the greatest size of an integer, in bytes: it keeps every encoded integer within an int.
const maxSize = 7

// lengthSize is the size of the length ahead of a part.
const lengthSize = 4

// Put returns the bytes of b followed by n in size bytes, the most significant byte first.
func Put(b []byte, n, size int) ([]byte, api.Errno) {
	if size < 1 || size > maxSize || n < 0 || n>>(8*size) != 0 {
		return nil, api.ErrArg
	}
	out := make([]byte, len(b)+size)
	copy(out, b)
	for i := range size {
		out[len(b)+i] = byte(n >> (8 * (size - 1 - i)))
	}
	return out, api.OK
}

// Get returns the integer in the size bytes from offset at on, and the offset behind it.
func Get(b []byte, at, size int) (n, next int, e api.Errno) {
	if size < 1 || size > maxSize || at < 0 || at > len(b) {
		return 0, 0, api.ErrArg
	}
	if len(b)-at < size {
		return 0, 0, api.ErrBytes
	}
	for _, c := range b[at : at+size] {
		n = n<<8 | int(c)
	}
	return n, at + size, api.OK
}

// PutPart returns the bytes of b, the length of part, and part.
func PutPart(b, part []byte) ([]byte, api.Errno) {
	if len(part) > api.MaxState {
		return nil, api.ErrLen
	}
	head, e := Put(b, len(part), lengthSize)
	if e != api.OK {
		return nil, e
	}
	out := make([]byte, 0, len(head)+len(part))
	out = append(out, head...)
	return append(out, part...), api.OK
}

// GetPart returns the byte string that PutPart has written at offset at, and the offset behind it.
func GetPart(b []byte, at int) (part []byte, next int, e api.Errno) {
	n, from, e := Get(b, at, lengthSize)
	if e != api.OK {
		return nil, 0, e
	}
	if n > api.MaxState || len(b)-from < n {
		return nil, 0, api.ErrBytes
	}
	part = make([]byte, n)
	copy(part, b[from:from+n])
	return part, from + n, api.OK
}
