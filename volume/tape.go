package volume

import (
	"cellarer/api"
	"cellarer/drive"
	"cellarer/medium"
)

// tape is a drive whose blocks have a size.
type tape struct {
	*drive.Drive
	size int
}

// off reports whether nothing can be done for want of power.
func (t tape) off() bool {
	// A drive has no call of its own for this; it tells that the power is off ahead of refusing the argument.
	return t.Drive == nil || t.Locate(-1, 0) == api.ErrOff
}

// marks returns the number of marks.
func (t tape) marks() int {
	if t.Drive == nil {
		return 0
	}
	return medium.Files(t.Medium())
}

// close writes the blocks and a mark at the position.
func (t tape) close(blocks [][]byte) api.Errno {
	for _, b := range blocks {
		if e := t.Write(b); e != api.OK {
			return e
		}
	}
	return t.Mark()
}

// first reads the block at the beginning, if a mark follows it.
func (t tape) first() ([]byte, api.Errno) {
	if e := t.Locate(0, 0); e != api.OK {
		return nil, e
	}
	b, e := t.Read()
	if e != api.OK {
		return nil, e
	}
	if _, e := t.Read(); e != api.ErrMark {
		return nil, api.ErrNone
	}
	return b, api.OK
}

// bytes reads n bytes from an offset in the next block on.
func (t tape) bytes(from, n int) ([]byte, api.Errno) {
	var out []byte
	for ; len(out) < n; from = 0 {
		to := min(t.size, from+n-len(out))
		b, e := t.block()
		if e != api.OK {
			return nil, e
		}
		if len(b) < to {
			return nil, api.ErrNone
		}
		out = append(out, b[from:to]...)
	}
	return out, api.OK
}

// back sets the position to an earlier one: a call that ends with an error leaves nothing changed.
func (t tape) back(place int) {
	marks, from := 0, 0
	for i, c := range t.Medium().Cells[:place] {
		if c.Kind == api.CellMark {
			marks, from = marks+1, i+1
		}
	}
	t.Locate(marks, place-from)
}

// block reads the next block of an aggregate; there is none at a mark and at the end of the tape.
func (t tape) block() ([]byte, api.Errno) {
	b, e := t.Read()
	if e == api.ErrMark {
		e = api.ErrNone
	}
	return b, e
}
