package repo

import (
	"bytes"
	"slices"

	"cellarer/aggr"
	"cellarer/api"
	"cellarer/bin"
	"cellarer/catalog"
	"cellarer/frame"
	"cellarer/manifest"
	"cellarer/medium"
	"cellarer/pools"
	"cellarer/sha"
	"cellarer/stage"
)

const (
	// frameSize is the size of a frame without Data.
	frameSize = 13
	ofSize    = 4
)

// frameLen returns the length of a record's frame.
func frameLen(r api.Record) int { return frameSize + len(r.Data) }

// manifestRecord returns the expected record of a snapshot's manifest.
func manifestRecord(s api.Snap) (api.Record, api.Errno) {
	b, e := manifest.Bytes(s.Man)
	return api.Record{Kind: api.RecManifest, Seq: s.Seq, Data: b}, e
}

// expiryRecord returns the expected record of an expiry.
func expiryRecord(seq, of int) (api.Record, api.Errno) {
	b, e := bin.Put(nil, of, ofSize)
	return api.Record{Kind: api.RecExpire, Seq: seq, Data: b}, e
}

// read returns the bytes at a Loc.
func (w *works) read(l api.Loc) ([]byte, api.Errno) {
	v, e := w.volume(l.Vol)
	if e != api.OK {
		return nil, e
	}
	return v.Read(l.File, l.Off, l.Len)
}

// readChunk returns the bytes of a chunk, if its record is at the Loc.
func (w *works) readChunk(id [32]byte, l api.Loc) ([]byte, bool) {
	b, e := w.read(l)
	if e != api.OK {
		return nil, false
	}
	r, next, e := frame.Read(b, 0)
	if e != api.OK || next != len(b) || r.Kind != api.RecChunk || r.Seq != 0 || sha.Sum(r.Data) != id {
		return nil, false
	}
	return r.Data, true
}

// holds reports whether the record is at the Loc.
func (w *works) holds(r api.Record, l api.Loc) bool {
	want, e := frame.Bytes(r)
	if e != api.OK {
		return false
	}
	b, e := w.read(l)
	return e == api.OK && bytes.Equal(b, want)
}

// record returns the expected record of an item.
func (w *works) record(it api.Item) (api.Record, api.Errno) {
	switch it.Kind {
	case api.RecChunk:
		return w.chunkRecord(it.Id)
	case api.RecManifest:
		i := slices.IndexFunc(w.known.Snaps, func(s api.Snap) bool { return s.Seq == it.Seq })
		if i < 0 {
			return api.Record{}, api.ErrNone
		}
		return manifestRecord(w.known.Snaps[i])
	}
	return expiryRecord(it.Seq, it.Of)
}

// chunkRecord returns the expected record of a chunk, from the catalog or from a tape.
func (w *works) chunkRecord(id [32]byte) (api.Record, api.Errno) {
	i := catalog.Chunk(w.known, id)
	if i < 0 {
		return api.Record{}, api.ErrNone
	}
	k := w.known.Chunks[i]
	if k.Staged {
		return api.Record{Kind: api.RecChunk, Data: k.Data}, api.OK
	}
	for _, l := range k.Locs {
		if b, ok := w.readChunk(id, l); ok {
			return api.Record{Kind: api.RecChunk, Data: b}, api.OK
		}
	}
	return api.Record{}, api.ErrMedia
}

// records returns the expected records of the items.
func (w *works) records(items []api.Item) ([]api.Record, api.Errno) {
	var l []api.Record
	for _, it := range items {
		r, e := w.record(it)
		if e != api.OK {
			return nil, e
		}
		l = append(l, r)
	}
	return l, api.OK
}

// write writes a group of items to a pool, but not to the volume not.
func (w *works) write(items []api.Item, pool, not int) api.Errno {
	records, e := w.records(items)
	if e != api.OK {
		return e
	}
	need, e := aggr.Need(w.config.Block, records...)
	if e != api.OK {
		return e
	}
	vol, e := pools.Target(w.known, pool, need+1, w.rooms(), not)
	if e == api.ErrScratch && len(items) > 1 {
		return w.writeGroups(stage.Batch(items, 1), pool, not)
	}
	if e != api.OK {
		return e
	}
	return w.writeTo(vol, items, records)
}

// writeGroups writes groups, up to the first error.
func (w *works) writeGroups(groups [][]api.Item, pool, not int) api.Errno {
	for _, group := range groups {
		if e := w.write(group, pool, not); e != api.OK {
			return e
		}
	}
	return api.OK
}

// writeTo writes the records of the items to a volume.
func (w *works) writeTo(vol int, items []api.Item, records []api.Record) api.Errno {
	v, e := w.volume(vol)
	if e != api.OK {
		return e
	}
	files := w.known.Vols[vol].Files
	offs, e := v.Append(files, records...)
	if e != api.OK {
		return e
	}
	wrote := slices.Clone(items)
	for i := range wrote {
		wrote[i].Off, wrote[i].Len = offs[i], frameLen(records[i])
	}
	e = w.commit(api.Change{Kind: api.ChWrote, Vol: vol, Items: wrote})
	if e != api.ErrLimit {
		return e
	}
	if e := v.Trim(files); e != api.OK {
		return e
	}
	return api.ErrLimit
}

// rooms returns, for each volume, how many cells are free behind its aggregates.
func (w *works) rooms() []int {
	rooms := make([]int, len(w.known.Vols))
	for vol, v := range w.known.Vols {
		if v.State == api.VolRetired {
			continue
		}
		m, e := w.Medium(vol)
		if e != api.OK {
			continue
		}
		if at, e := medium.File(m, v.Files+1); e == api.OK {
			rooms[vol] = m.Cap - at
		}
	}
	return rooms
}

// fill writes to a pool what it lacks.
func (w *works) fill(pool int) api.Errno {
	return w.writeGroups(stage.Batch(stage.Lacks(w.known, pool), w.config.Batch), pool, none)
}

// expire removes a snapshot.
func (w *works) expire(name string) api.Errno {
	i := catalog.Snap(w.known, name)
	if i < 0 {
		return api.ErrNone
	}
	s := w.known.Snaps[i]
	if len(s.Locs) > 0 {
		return w.write([]api.Item{{Kind: api.RecExpire, Seq: w.known.Seq, Of: s.Seq}}, primary, none)
	}
	return w.commit(api.Change{Kind: api.ChDrop, Seq: s.Seq})
}

// reclaim empties a volume.
func (w *works) reclaim(vol int) api.Errno {
	if vol < 0 || vol >= len(w.known.Vols) {
		return api.ErrArg
	}
	v := w.known.Vols[vol]
	if v.State != api.VolFilling {
		return api.ErrState
	}
	if v.Epoch == api.MaxEpoch {
		return api.ErrLimit
	}
	if e := w.writeGroups(stage.Batch(stage.Moves(w.known, vol), w.config.Batch), v.Pool, vol); e != api.OK {
		return e
	}
	if e := w.commit(api.Change{Kind: api.ChRetire, Vol: vol}); e != api.OK {
		return e
	}
	return w.relabel(vol)
}

// renew migrates, and takes the catalog that the tapes tell of.
func (w *works) renew() api.Errno {
	if e := w.fill(primary); e != api.OK {
		return e
	}
	next, e := w.scan()
	if e != api.OK {
		return e
	}
	if !slices.EqualFunc(next.Snaps, w.known.Snaps, sameSnap) {
		return api.ErrMedia
	}
	next.Seq = w.known.Seq
	b, e := encode(next)
	if e != api.OK {
		return e
	}
	if e := w.Save(b); e != api.OK {
		return e
	}
	w.known = next
	return api.OK
}

// sameSnap reports whether two snapshots are the same, wherever they lie.
func sameSnap(a, b api.Snap) bool {
	x, e := manifest.Bytes(a.Man)
	y, f := manifest.Bytes(b.Man)
	return e == api.OK && f == api.OK && a.Seq == b.Seq && bytes.Equal(x, y)
}

// audit counts the Locs at which the expected record cannot be read.
func (w *works) audit() int {
	bad := 0
	count := func(l []api.Loc, held func(api.Loc) bool) {
		for _, x := range l {
			if !held(x) {
				bad++
			}
		}
	}
	for _, k := range w.known.Chunks {
		count(k.Locs, func(l api.Loc) bool {
			_, ok := w.readChunk(k.Id, l)
			return ok
		})
	}
	for _, s := range w.known.Snaps {
		r, e := manifestRecord(s)
		count(s.Locs, func(l api.Loc) bool { return e == api.OK && w.holds(r, l) })
	}
	for _, x := range w.known.Exps {
		r, e := expiryRecord(x.Seq, x.Of)
		count(x.Locs, func(l api.Loc) bool { return e == api.OK && w.holds(r, l) })
	}
	return bad
}
