package copies

import (
	"reflect"
	"testing"

	"cellarer/api"
)

func sample() api.Catalog {
	locs := func() []api.Loc { return []api.Loc{{Vol: 1, File: 2, Off: 3, Len: 4}} }
	return api.Catalog{
		Seq:    7,
		Snaps:  []api.Snap{{Seq: 1, Man: api.Manifest{Name: "n", Parts: []api.Part{{Path: "p", Size: 3, Ids: [][32]byte{{1}}}}}, Locs: locs()}},
		Chunks: []api.Chunk{{Id: [32]byte{1}, Staged: true, Data: []byte{5}, Locs: locs()}},
		Exps:   []api.Exp{{Seq: 3, Of: 2, Locs: locs()}},
		Vols:   []api.Vol{{Pool: 1, Epoch: 2, State: 3, Files: 4}},
	}
}

func TestCatalogIsCopiedWhole(t *testing.T) {
	c := sample()
	got := Catalog(c)
	if !reflect.DeepEqual(got, c) {
		t.Error(got)
	}
	got.Snaps[0].Man.Parts[0].Ids[0][0] = 9
	got.Snaps[0].Man.Parts[0].Path = "other"
	got.Snaps[0].Locs[0].Vol = 9
	got.Snaps[0].Seq = 9
	got.Chunks[0].Data[0] = 9
	got.Chunks[0].Locs[0].Vol = 9
	got.Exps[0].Locs[0].Vol = 9
	got.Vols[0].Pool = 9
	if !reflect.DeepEqual(c, sample()) {
		t.Error("the copy shares memory")
	}
}
