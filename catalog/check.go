package catalog

import (
	"cmp"
	"slices"

	"cellarer/api"
	"cellarer/manifest"
)

const (
	lastPool = 1
	maxFiles = 1<<16 - 1
	maxOff   = 1<<24 - 1
	// minLen is the length of a frame without Data.
	minLen = 13
	maxLen = minLen + api.MaxFrame
)

// Check returns OK if c is valid.
func Check(c api.Catalog) api.Errno {
	if c.Seq < 0 || c.Seq > api.MaxSeq {
		return api.ErrArg
	}
	if !validVols(c.Vols) || !validChunks(c) || !validSnaps(c) || !validExps(c) {
		return api.ErrArg
	}
	return api.OK
}

func validPool(pool int) bool { return pool >= 0 && pool <= lastPool }

func validVols(l []api.Vol) bool {
	if len(l) < 1 || len(l) > api.MaxVols {
		return false
	}
	for _, v := range l {
		if !validPool(v.Pool) || v.Epoch < 0 || v.Epoch > api.MaxEpoch || !validFiles(v) {
			return false
		}
	}
	return true
}

// validFiles reports whether a volume in its state may have its Files.
func validFiles(v api.Vol) bool {
	switch v.State {
	case api.VolScratch, api.VolRetired:
		return v.Files == 0
	case api.VolFilling:
		return v.Files >= 1 && v.Files <= maxFiles
	}
	return false
}

// validChunks needs valid Vols.
func validChunks(c api.Catalog) bool {
	if len(c.Chunks) > api.MaxChunks {
		return false
	}
	for i, k := range c.Chunks {
		if i > 0 && compareIds(c.Chunks[i-1].Id, k.Id) >= 0 || !validData(k) || !validLocs(c, k.Locs) {
			return false
		}
	}
	return true
}

// validData reports whether a chunk's bytes are either on the disk or on tapes.
func validData(k api.Chunk) bool {
	if k.Staged {
		return len(k.Data) >= 1 && len(k.Data) <= api.MaxChunk
	}
	return len(k.Data) == 0 && len(k.Locs) >= 1
}

// validSnaps needs valid Vols and Chunks.
func validSnaps(c api.Catalog) bool {
	if len(c.Snaps) > api.MaxSnaps {
		return false
	}
	for i, s := range c.Snaps {
		if s.Seq < 0 || s.Seq >= c.Seq || i > 0 && c.Snaps[i-1].Seq >= s.Seq {
			return false
		}
		if manifest.Check(s.Man) != api.OK || Snap(c, s.Man.Name) != i || !validLocs(c, s.Locs) || !hasChunks(c, s.Man) {
			return false
		}
	}
	return true
}

// hasChunks reports whether each id in m is that of a Chunk; the Chunks are in order.
func hasChunks(c api.Catalog, m api.Manifest) bool {
	for _, p := range m.Parts {
		for _, id := range p.Ids {
			_, ok := slices.BinarySearchFunc(c.Chunks, id, func(k api.Chunk, id [32]byte) int { return compareIds(k.Id, id) })
			if !ok {
				return false
			}
		}
	}
	return true
}

// validExps needs valid Vols.
func validExps(c api.Catalog) bool {
	if len(c.Exps) > api.MaxExps {
		return false
	}
	for i, x := range c.Exps {
		if x.Seq < 0 || x.Seq >= c.Seq || i > 0 && c.Exps[i-1].Seq >= x.Seq {
			return false
		}
		if x.Of < 0 || x.Of >= x.Seq || len(x.Locs) < 1 || !validLocs(c, x.Locs) {
			return false
		}
		if slices.ContainsFunc(c.Snaps, func(s api.Snap) bool { return s.Seq == x.Of }) {
			return false
		}
	}
	return true
}

// validLocs needs valid Vols.
func validLocs(c api.Catalog, l []api.Loc) bool {
	if len(l) > api.MaxPlaces {
		return false
	}
	for i, x := range l {
		if !validLoc(c, x) || i > 0 && comparePlaces(l[i-1], x) >= 0 {
			return false
		}
	}
	return true
}

func validLoc(c api.Catalog, x api.Loc) bool {
	if x.Vol < 0 || x.Vol >= len(c.Vols) || c.Vols[x.Vol].State != api.VolFilling {
		return false
	}
	return x.File >= 1 && x.File <= c.Vols[x.Vol].Files && x.Off >= 0 && x.Off <= maxOff && x.Len >= minLen && x.Len <= maxLen
}

// comparePlaces tells the order of two Locs by where they begin.
func comparePlaces(a, b api.Loc) int {
	return cmp.Or(cmp.Compare(a.Vol, b.Vol), cmp.Compare(a.File, b.File), cmp.Compare(a.Off, b.Off))
}
