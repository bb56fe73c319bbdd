package volume

import (
	"cellarer/api"
	"cellarer/drive"
	"cellarer/medium"
)

// tape is a drive whose blocks have a size.
type tape struct {
	*drive.Drive
	size int
}

// off reports whether nothing can be done for want of power.
func (t tape) off() bool {
	// A drive has no call of its own for this; it tells that the power is off ahead of refusing the argument.
	return t.Drive == nil || t.Locate(-1, 0) == api.ErrOff
}

// marks returns the number of marks.
func (t tape) marks() int {
	if t.Drive == nil {
		return 0
	}
	return medium.Files(t.Medium())
}

// close writes the blocks and a mark at the position.
func (t tape) close(blocks [][]byte) api.Errno {
	for _, b := range blocks {
		if e := t.Write(b); e != api.OK {
			return e
		}
	}
	return t.Mark()
}

// block reads the next block of an aggregate; there is none at a mark and at the end of the tape.
func (t tape) block() ([]byte, api.Errno) {
	b, e := t.Read()
	if e == api.ErrMark {
		e = api.ErrNone
	}
	return b, e
}
