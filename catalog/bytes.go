package catalog

import (
	"cellarer/api"
	"cellarer/manifest"
	"cellarer/wire"
)

const (
	seqSize    = 4
	lengthSize = 4
	// byteSize is the size of the numbers of Snaps, Vols and Locs, of pools and states, and of the length of Data.
	byteSize  = 1
	countSize = 2
	epochSize = 4
	fileSize  = 2
	offSize   = 3
	lenSize   = 2

	staged    = 1
	notStaged = 0
)

// Bytes returns the encoding of c.
func Bytes(c api.Catalog) ([]byte, api.Errno) {
	if e := Check(c); e != api.OK {
		return nil, e
	}
	var w wire.Writer
	w.Number(c.Seq, seqSize)
	if e := putSnaps(&w, c.Snaps); e != api.OK {
		return nil, e
	}
	putChunks(&w, c.Chunks)
	w.Number(len(c.Exps), countSize)
	for _, x := range c.Exps {
		w.Number(x.Seq, seqSize)
		w.Number(x.Of, seqSize)
		putLocs(&w, x.Locs)
	}
	w.Number(len(c.Vols), byteSize)
	for _, v := range c.Vols {
		w.Number(v.Pool, byteSize)
		w.Number(v.State, byteSize)
		w.Number(v.Epoch, epochSize)
		w.Number(v.Files, fileSize)
	}
	b, ok := w.Result()
	if !ok {
		return nil, api.ErrArg
	}
	return b, api.OK
}

func putSnaps(w *wire.Writer, l []api.Snap) api.Errno {
	w.Number(len(l), byteSize)
	for _, s := range l {
		man, e := manifest.Bytes(s.Man)
		if e != api.OK {
			return e
		}
		w.Number(s.Seq, seqSize)
		w.Number(len(man), lengthSize)
		w.Bytes(man)
		putLocs(w, s.Locs)
	}
	return api.OK
}

func putChunks(w *wire.Writer, l []api.Chunk) {
	w.Number(len(l), countSize)
	for _, k := range l {
		w.Bytes(k.Id[:])
		if k.Staged {
			w.Number(staged, byteSize)
		} else {
			w.Number(notStaged, byteSize)
		}
		w.Number(len(k.Data), byteSize)
		w.Bytes(k.Data)
		putLocs(w, k.Locs)
	}
}

func putLocs(w *wire.Writer, l []api.Loc) {
	w.Number(len(l), byteSize)
	for _, x := range l {
		w.Number(x.Vol, byteSize)
		w.Number(x.File, fileSize)
		w.Number(x.Off, offSize)
		w.Number(x.Len, lenSize)
	}
}

// Read returns the Catalog of which b is the encoding.
func Read(b []byte) (api.Catalog, api.Errno) {
	var c api.Catalog
	r := wire.NewReader(b)
	c.Seq = r.Number(seqSize)
	c.Snaps = list(r, byteSize, getSnap)
	c.Chunks = list(r, countSize, getChunk)
	c.Exps = list(r, countSize, func(r *wire.Reader) api.Exp {
		return api.Exp{Seq: r.Number(seqSize), Of: r.Number(seqSize), Locs: list(r, byteSize, getLoc)}
	})
	c.Vols = list(r, byteSize, func(r *wire.Reader) api.Vol {
		return api.Vol{Pool: r.Number(byteSize), State: r.Number(byteSize), Epoch: r.Number(epochSize), Files: r.Number(fileSize)}
	})
	if !r.Whole() || Check(c) != api.OK {
		return api.Catalog{}, api.ErrBytes
	}
	return c, api.OK
}

// list reads a number in size bytes, and so many elements.
func list[T any](r *wire.Reader, size int, one func(*wire.Reader) T) []T {
	var l []T
	for range r.Number(size) {
		x := one(r)
		if !r.Good() {
			return nil
		}
		l = append(l, x)
	}
	return l
}

func getSnap(r *wire.Reader) api.Snap {
	s := api.Snap{Seq: r.Number(seqSize)}
	man, e := manifest.Read(r.Bytes(r.Number(lengthSize)))
	if e != api.OK {
		r.Refuse()
	}
	s.Man = man
	s.Locs = list(r, byteSize, getLoc)
	return s
}

func getChunk(r *wire.Reader) api.Chunk {
	k := api.Chunk{Id: r.Id()}
	kind := r.Number(byteSize)
	if kind > staged {
		r.Refuse()
	}
	k.Staged = kind == staged
	k.Data = r.Bytes(r.Number(byteSize))
	k.Locs = list(r, byteSize, getLoc)
	return k
}

func getLoc(r *wire.Reader) api.Loc {
	return api.Loc{Vol: r.Number(byteSize), File: r.Number(fileSize), Off: r.Number(offSize), Len: r.Number(lenSize)}
}
