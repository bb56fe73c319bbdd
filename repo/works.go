package repo

import (
	"cellarer/api"
	"cellarer/catalog"
	"cellarer/change"
	"cellarer/disk"
	"cellarer/manifest"
	"cellarer/power"
	"cellarer/robot"
	"cellarer/tree"
	"cellarer/volume"
	"cellarer/wal"
)

// The pools.
const (
	primary = 0
	copied  = 1
)

// none is the volume where there is none.
const none = -1

// works are the devices of a Repo and what it knows.
type works struct {
	*power.Power
	*disk.Disk
	*robot.Robot
	*wal.Log
	config api.Config
	// life is the power's life in which all this is worth something.
	life  int
	known api.Catalog
	moves []api.Move
}

// down reports whether the power was lost since the Repo was created.
func (w *works) down() bool { return w.Power == nil || w.Off() || w.Life() != w.life }

// volume mounts a volume.
func (w *works) volume(vol int) (*volume.Volume, api.Errno) {
	d, e := w.Mount(vol)
	if e != api.OK {
		return nil, e
	}
	return volume.New(d, w.config.Block)
}

// pool returns the pool to which a volume belongs.
func (w *works) pool(vol int) int {
	if vol < w.config.Primary {
		return primary
	}
	return copied
}

// pools returns the pools of all volumes.
func (w *works) pools() []int {
	var l []int
	for vol := range w.Vols() {
		l = append(l, w.pool(vol))
	}
	return l
}

// encode returns the encoding of a catalog that can be kept.
func encode(c api.Catalog) ([]byte, api.Errno) {
	b, e := catalog.Bytes(c)
	if e != api.OK {
		return nil, e
	}
	if len(b) > api.MaxState {
		return nil, api.ErrLimit
	}
	return b, api.OK
}

// commit applies a change durably.
func (w *works) commit(x api.Change) api.Errno {
	next, e := change.Apply(w.known, x)
	if e != api.OK {
		return api.ErrLimit
	}
	whole, e := encode(next)
	if e != api.OK {
		return api.ErrLimit
	}
	b, e := change.Bytes(x)
	if e == api.OK && w.Room(len(b)) {
		e = w.Append(b)
	} else {
		e = w.Save(whole)
	}
	if e == api.OK {
		w.known = next
	}
	return e
}

// format writes the label of a volume.
func (w *works) format(vol, epoch int) api.Errno {
	v, e := w.volume(vol)
	if e != api.OK {
		return e
	}
	return v.Format(api.Label{Vol: vol, Pool: w.pool(vol), Epoch: epoch})
}

// relabel makes a retired volume a scratch one.
func (w *works) relabel(vol int) api.Errno {
	if e := w.format(vol, w.known.Vols[vol].Epoch+1); e != api.OK {
		return e
	}
	return w.commit(api.Change{Kind: api.ChRelabel, Vol: vol})
}

// trim removes from a volume what the catalog does not know.
func (w *works) trim(vol int) api.Errno {
	v, e := w.volume(vol)
	if e != api.OK {
		return e
	}
	return v.Trim(w.known.Vols[vol].Files)
}

// backup adds a snapshot.
func (w *works) backup(name string, l []api.File) api.Errno {
	if !tree.Name(name) {
		return api.ErrArg
	}
	files, e := tree.Sort(l)
	if e != api.OK {
		return e
	}
	if catalog.Snap(w.known, name) >= 0 {
		return api.ErrTwice
	}
	man, chunks, e := manifest.Build(name, files)
	if e != api.OK {
		return e
	}
	fresh := w.fresh(man, chunks)
	size := catalog.Staged(w.known)
	for _, k := range fresh {
		size += len(k.Data)
	}
	if size > w.config.Stage {
		return api.ErrFull
	}
	if len(w.known.Snaps) >= api.MaxSnaps || len(w.known.Chunks)+len(fresh) > api.MaxChunks {
		return api.ErrLimit
	}
	return w.commit(api.Change{Kind: api.ChAdd, Snap: api.Snap{Seq: w.known.Seq, Man: man}, Chunks: fresh})
}

// fresh returns the chunks of a manifest that are not in the catalog. The chunks are in the order of the ids.
func (w *works) fresh(man api.Manifest, chunks [][]byte) []api.Chunk {
	var l []api.Chunk
	for i, id := range manifest.Ids(man) {
		if catalog.Chunk(w.known, id) < 0 {
			l = append(l, api.Chunk{Id: id, Staged: true, Data: chunks[i]})
		}
	}
	return l
}
