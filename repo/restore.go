package repo

import (
	"slices"

	"cellarer/api"
	"cellarer/catalog"
	"cellarer/manifest"
	"cellarer/mounts"
	"cellarer/plan"
)

// gathering is a Restore that is under way.
type gathering struct {
	w *works
	// chunks are those that are there, and wants those that are still wanted, with the Locs that may still be read.
	chunks [][]byte
	wants  []api.Want
	moves  []api.Move
}

// restore returns the files of a snapshot.
func (w *works) restore(name string) ([]api.File, api.Errno) {
	i := catalog.Snap(w.known, name)
	if i < 0 {
		return nil, api.ErrNone
	}
	man := w.known.Snaps[i].Man
	g := gathering{w: w}
	g.begin(man)
	for len(g.wants) > 0 {
		if e := g.round(); e != api.OK {
			return nil, e
		}
	}
	files, e := manifest.Join(man, g.chunks)
	if e != api.OK {
		return nil, e
	}
	w.moves = g.moves
	return files, api.OK
}

// begin takes the staged chunks of a snapshot, and wants the others.
func (g *gathering) begin(man api.Manifest) {
	known := g.w.known
	for _, id := range manifest.Ids(man) {
		i := catalog.Chunk(known, id)
		if i < 0 {
			continue
		}
		if k := known.Chunks[i]; k.Staged {
			g.chunks = append(g.chunks, k.Data)
		} else {
			g.wants = append(g.wants, api.Want{Id: id, Locs: slices.Clone(k.Locs)})
		}
	}
}

// round reads each wanted chunk once.
func (g *gathering) round() api.Errno {
	reads, lost := plan.Order(g.wants...)
	if len(lost) > 0 {
		return api.ErrMedia
	}
	moves, e := mounts.Moves(g.held(), reads)
	if e != api.OK {
		return e
	}
	got := make([]bool, len(g.wants))
	for _, m := range moves {
		if m.Kind == api.MoveMount {
			if _, e := g.w.Mount(m.Vol); e != api.OK {
				return e
			}
			continue
		}
		// The reads of a volume are carried out in their order.
		i := slices.IndexFunc(reads, func(r api.Read) bool { return r.Loc.Vol == m.Vol })
		want := reads[i].Want
		reads = slices.Delete(reads, i, i+1)
		if got[want], e = g.read(want, m.Loc); e != api.OK {
			return e
		}
	}
	g.moves = append(g.moves, moves...)
	var left []api.Want
	for i, x := range g.wants {
		if !got[i] {
			left = append(left, x)
		}
	}
	g.wants = left
	return api.OK
}

// read reads a wanted chunk at a Loc, which is not used again if the chunk is not there.
func (g *gathering) read(want int, l api.Loc) (bool, api.Errno) {
	x := &g.wants[want]
	if b, ok := g.w.readChunk(x.Id, l); ok {
		g.chunks = append(g.chunks, b)
		return true, api.OK
	}
	x.Locs = slices.DeleteFunc(x.Locs, func(y api.Loc) bool { return y == l })
	if len(x.Locs) == 0 {
		return false, api.ErrMedia
	}
	return false, api.OK
}

// held returns what the drives hold.
func (g *gathering) held() []int {
	holds := make([]int, g.w.Drives())
	for i := range holds {
		holds[i] = g.w.Holds(i)
	}
	return holds
}
