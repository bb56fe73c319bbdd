package change

import (
	"bytes"

	"cellarer/api"
	"cellarer/manifest"
	"cellarer/wire"
)

const (
	kindSize   = 1
	seqSize    = 4
	lengthSize = 4
	countSize  = 2
	// byteSize is the size of a volume, of the number of Items, and of the length of Data.
	byteSize = 1
	offSize  = 3
	lenSize  = 2
)

// Bytes returns the encoding of x.
func Bytes(x api.Change) ([]byte, api.Errno) {
	if !named(x) {
		return nil, api.ErrArg
	}
	var w wire.Writer
	w.Number(x.Kind, kindSize)
	e := api.OK
	switch x.Kind {
	case api.ChAdd:
		e = putAdd(&w, x)
	case api.ChDrop:
		w.Number(x.Seq, seqSize)
	case api.ChWrote:
		e = putWrote(&w, x)
	case api.ChRetire, api.ChRelabel:
		w.Number(x.Vol, byteSize)
	}
	b, ok := w.Result()
	if e != api.OK || !ok {
		return nil, api.ErrArg
	}
	return b, api.OK
}

// named reports whether x has a Kind, and nothing in the fields that this Kind does not name.
func named(x api.Change) bool {
	snap := x.Snap.Seq != 0 || x.Snap.Man.Name != "" || len(x.Snap.Man.Parts) > 0 || len(x.Snap.Locs) > 0
	added := snap || len(x.Chunks) > 0
	switch x.Kind {
	case api.ChAdd:
		return x.Seq == 0 && x.Vol == 0 && len(x.Items) == 0
	case api.ChDrop:
		return !added && x.Vol == 0 && len(x.Items) == 0
	case api.ChWrote:
		return !added && x.Seq == 0
	case api.ChRetire, api.ChRelabel:
		return !added && x.Seq == 0 && len(x.Items) == 0
	}
	return false
}

func putAdd(w *wire.Writer, x api.Change) api.Errno {
	man, e := manifest.Bytes(x.Snap.Man)
	if e != api.OK || len(x.Snap.Locs) > 0 {
		return api.ErrArg
	}
	w.Number(x.Snap.Seq, seqSize)
	w.Number(len(man), lengthSize)
	w.Bytes(man)
	w.Number(len(x.Chunks), countSize)
	for _, k := range x.Chunks {
		if unstaged(k) {
			return api.ErrArg
		}
		w.Bytes(k.Id[:])
		w.Number(len(k.Data), byteSize)
		w.Bytes(k.Data)
	}
	return api.OK
}

func putWrote(w *wire.Writer, x api.Change) api.Errno {
	w.Number(x.Vol, byteSize)
	w.Number(len(x.Items), byteSize)
	for _, it := range x.Items {
		if !encodable(it) {
			return api.ErrArg
		}
		w.Number(it.Kind, kindSize)
		w.Bytes(it.Id[:])
		w.Number(it.Seq, seqSize)
		w.Number(it.Of, seqSize)
		w.Number(it.Off, offSize)
		w.Number(it.Len, lenSize)
	}
	return api.OK
}

// encodable reports whether the item has a Kind, and nothing in the fields that this Kind does not name.
func encodable(it api.Item) bool {
	switch it.Kind {
	case api.RecChunk:
		return it.Seq == 0 && it.Of == 0
	case api.RecManifest:
		return it.Id == [32]byte{} && it.Of == 0
	case api.RecExpire:
		return it.Id == [32]byte{}
	}
	return false
}

// Read returns the Change of which b is the encoding.
func Read(b []byte) (api.Change, api.Errno) {
	r := wire.NewReader(b)
	x := api.Change{Kind: r.Number(kindSize)}
	switch x.Kind {
	case api.ChAdd:
		getAdd(r, &x)
	case api.ChDrop:
		x.Seq = r.Number(seqSize)
	case api.ChWrote:
		getWrote(r, &x)
	case api.ChRetire, api.ChRelabel:
		x.Vol = r.Number(byteSize)
	}
	if !r.Whole() {
		return api.Change{}, api.ErrBytes
	}
	// What is read may still be no Change: then it has no encoding, or another one.
	again, e := Bytes(x)
	if e != api.OK || !bytes.Equal(again, b) {
		return api.Change{}, api.ErrBytes
	}
	return x, api.OK
}

func getAdd(r *wire.Reader, x *api.Change) {
	x.Snap.Seq = r.Number(seqSize)
	man, e := manifest.Read(r.Bytes(r.Number(lengthSize)))
	if e != api.OK {
		r.Refuse()
	}
	x.Snap.Man = man
	for range r.Number(countSize) {
		k := api.Chunk{Id: r.Id(), Staged: true, Data: r.Bytes(r.Number(byteSize))}
		if !r.Good() {
			return
		}
		x.Chunks = append(x.Chunks, k)
	}
}

func getWrote(r *wire.Reader, x *api.Change) {
	x.Vol = r.Number(byteSize)
	for range r.Number(byteSize) {
		it := api.Item{Kind: r.Number(kindSize), Id: r.Id(), Seq: r.Number(seqSize), Of: r.Number(seqSize), Off: r.Number(offSize), Len: r.Number(lenSize)}
		if !r.Good() {
			return
		}
		x.Items = append(x.Items, it)
	}
}
