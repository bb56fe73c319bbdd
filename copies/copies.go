// Package copies copies the values of a catalog into new memory.
package copies

import (
	"bytes"
	"slices"

	"cellarer/api"
)

// Each returns the copies of the elements of a list.
func Each[T any](l []T, one func(T) T) []T {
	if len(l) == 0 {
		return nil
	}
	out := make([]T, len(l))
	for i, x := range l {
		out[i] = one(x)
	}
	return out
}

// Part copies a part of a manifest.
func Part(p api.Part) api.Part {
	p.Ids = slices.Clone(p.Ids)
	return p
}

// Manifest copies a manifest.
func Manifest(m api.Manifest) api.Manifest {
	m.Parts = Each(m.Parts, Part)
	return m
}

// Snap copies a snapshot.
func Snap(s api.Snap) api.Snap {
	s.Man, s.Locs = Manifest(s.Man), slices.Clone(s.Locs)
	return s
}

// Chunk copies a chunk.
func Chunk(c api.Chunk) api.Chunk {
	c.Data, c.Locs = bytes.Clone(c.Data), slices.Clone(c.Locs)
	return c
}

// Exp copies an expiry.
func Exp(x api.Exp) api.Exp {
	x.Locs = slices.Clone(x.Locs)
	return x
}

// Catalog copies a catalog.
func Catalog(c api.Catalog) api.Catalog {
	return api.Catalog{
		Seq:    c.Seq,
		Snaps:  Each(c.Snaps, Snap),
		Chunks: Each(c.Chunks, Chunk),
		Exps:   Each(c.Exps, Exp),
		Vols:   slices.Clone(c.Vols),
	}
}
