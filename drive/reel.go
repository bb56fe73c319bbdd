package drive

import (
	"cellarer/api"
	"cellarer/medium"
)

// reel is a tape with the functions of package medium as methods.
type reel struct {
	tape api.Medium
}

func (r reel) check() api.Errno { return medium.Check(r.tape) }

func (r reel) cells() int { return len(r.tape.Cells) }

// copy returns the tape in new memory.
func (r reel) copy() api.Medium {
	m, _ := medium.End(r.tape, r.cells())
	return m
}

func (r reel) read(p int) ([]byte, api.Errno) { return medium.Read(r.tape, p) }

func (r reel) file(n int) (int, api.Errno) { return medium.File(r.tape, n) }

// marked reports whether one of the cells from one position to another is a mark.
func (r reel) marked(from, to int) bool {
	for _, c := range r.tape.Cells[from:to] {
		if c.Kind == api.CellMark {
			return true
		}
	}
	return false
}

func (r reel) write(p int, b []byte) (reel, api.Errno) {
	m, e := medium.Write(r.tape, p, b)
	return reel{m}, e
}

func (r reel) tear(p int, b []byte, keep int) (reel, api.Errno) {
	m, e := medium.Tear(r.tape, p, b, keep)
	return reel{m}, e
}

func (r reel) mark(p int) (reel, api.Errno) {
	m, e := medium.Mark(r.tape, p)
	return reel{m}, e
}

func (r reel) end(p int) (reel, api.Errno) {
	m, e := medium.End(r.tape, p)
	return reel{m}, e
}
