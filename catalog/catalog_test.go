package catalog

import (
	"bytes"
	"math"
	"reflect"
	"slices"
	"testing"

	"cellarer/api"
	"cellarer/copies"
)

func id(n byte) [32]byte { return [32]byte{n} }

func loc(vol, file, off int) api.Loc { return api.Loc{Vol: vol, File: file, Off: off, Len: 13} }

// sample is a valid catalog with something of each kind.
func sample() api.Catalog {
	return api.Catalog{
		Seq: 9,
		Snaps: []api.Snap{
			{Seq: 1, Man: api.Manifest{Name: "one", Parts: []api.Part{{Path: "a", Size: 9, Ids: [][32]byte{id(1), id(3)}}}}, Locs: []api.Loc{loc(0, 1, 5), loc(1, 2, 0)}},
			{Seq: 8, Man: api.Manifest{Name: "two"}},
		},
		Chunks: []api.Chunk{
			{Id: id(1), Staged: true, Data: []byte("data")},
			{Id: id(2), Locs: []api.Loc{loc(0, 1, 5), loc(0, 1, 6), loc(0, 2, 0), loc(1, 1, 0)}},
			{Id: id(3), Staged: true, Data: []byte("x"), Locs: []api.Loc{{Vol: 1, File: 2, Off: 1<<24 - 1, Len: 13 + api.MaxFrame}}},
		},
		Exps: []api.Exp{{Seq: 2, Of: 0, Locs: []api.Loc{loc(0, 2, 9)}}, {Seq: 5, Of: 0, Locs: []api.Loc{loc(0, 1, 0)}}},
		Vols: []api.Vol{{Pool: 0, Epoch: 3, State: api.VolFilling, Files: 2}, {Pool: 1, State: api.VolFilling, Files: 65535}, {Pool: 1, State: api.VolScratch}, {Pool: 0, Epoch: api.MaxEpoch, State: api.VolRetired}},
	}
}

// same compares two catalogs, for which nil and empty lists are one.
func same(a, b api.Catalog) bool {
	x, e := Bytes(a)
	y, f := Bytes(b)
	return e == api.OK && f == api.OK && bytes.Equal(x, y)
}

func TestNew(t *testing.T) {
	for _, pools := range [][]int{nil, make([]int, api.MaxVols+1), {2, 2, 2, 2, 2, 2, 2, 2, 2}} {
		if c, e := New(pools...); e != api.ErrLen || !reflect.DeepEqual(c, api.Catalog{}) {
			t.Error(pools, e)
		}
	}
	for _, pools := range [][]int{{2}, {0, 1, -1}, {math.MaxInt}} {
		if c, e := New(pools...); e != api.ErrArg || !reflect.DeepEqual(c, api.Catalog{}) {
			t.Error(pools, e)
		}
	}
	if c, e := New(make([]int, api.MaxVols)...); e != api.OK || len(c.Vols) != api.MaxVols {
		t.Error(c, e)
	}
	c, e := New(0, 1, 1)
	want := []api.Vol{{State: api.VolScratch}, {Pool: 1, State: api.VolScratch}, {Pool: 1, State: api.VolScratch}}
	if e != api.OK || c.Seq != 0 || len(c.Snaps)+len(c.Chunks)+len(c.Exps) != 0 || !slices.Equal(c.Vols, want) || Check(c) != api.OK {
		t.Error(c, e)
	}
	one, _ := New(0)
	if b, e := Bytes(one); len(b) != 18 || e != api.OK {
		t.Error(b, e)
	}
}

func TestCheckOfValidCatalogs(t *testing.T) {
	for i, change := range []func(*api.Catalog){
		func(c *api.Catalog) {},
		func(c *api.Catalog) { c.Seq = api.MaxSeq },
		func(c *api.Catalog) { c.Snaps[0].Seq, c.Exps = 0, nil },
		func(c *api.Catalog) { c.Snaps[0].Seq, c.Exps[0].Of, c.Exps[1].Of = 3, 1, 1 },
		func(c *api.Catalog) { c.Vols = append(c.Vols, slices.Repeat(c.Vols[2:3], 4)...) },
		func(c *api.Catalog) {
			for i := len(c.Snaps); i < api.MaxSnaps; i++ {
				c.Snaps = append(c.Snaps, api.Snap{Seq: 20 + i, Man: api.Manifest{Name: string(rune('a' + i))}})
			}
			c.Seq = 100
		},
		func(c *api.Catalog) {
			for i := len(c.Chunks); i < api.MaxChunks; i++ {
				c.Chunks = append(c.Chunks, api.Chunk{Id: [32]byte{200, byte(i)}, Staged: true, Data: []byte{1}})
			}
		},
		func(c *api.Catalog) {
			c.Seq = 1000
			for i := len(c.Exps); i < api.MaxExps; i++ {
				c.Exps = append(c.Exps, api.Exp{Seq: 100 + i, Locs: []api.Loc{loc(0, 1, 0)}})
			}
		},
		func(c *api.Catalog) { c.Chunks[0].Data = make([]byte, api.MaxChunk) },
		func(c *api.Catalog) { c.Exps[1].Of = 4 },
		func(c *api.Catalog) { c.Exps[1].Seq = 8 },
		func(c *api.Catalog) {
			c.Chunks[1].Locs = nil
			for i := range api.MaxPlaces {
				c.Chunks[1].Locs = append(c.Chunks[1].Locs, loc(0, 1, i))
			}
		},
	} {
		c := sample()
		change(&c)
		if e := Check(c); e != api.OK {
			t.Error(i, e)
		}
	}
}

// faults returns changes that each make the sample invalid.
func faults() []func(*api.Catalog) {
	return []func(*api.Catalog){
		func(c *api.Catalog) { *c = api.Catalog{} },
		func(c *api.Catalog) { c.Seq = 8 },
		func(c *api.Catalog) { c.Seq = -1 },
		func(c *api.Catalog) { c.Seq = api.MaxSeq + 1 },
		func(c *api.Catalog) {
			for i := range 7 {
				c.Snaps = append(c.Snaps, api.Snap{Seq: 20 + i, Man: api.Manifest{Name: string(rune('a' + i))}})
			}
			c.Seq = 100
		},
		func(c *api.Catalog) { c.Snaps[0].Seq = 8 },
		func(c *api.Catalog) { c.Snaps[0].Seq = -1 },
		func(c *api.Catalog) { c.Snaps[1].Man.Name = "one" },
		func(c *api.Catalog) { c.Snaps[1].Man.Name = "" },
		func(c *api.Catalog) { c.Snaps[0].Man.Parts[0].Ids[0] = id(9) },
		func(c *api.Catalog) { slices.Reverse(c.Snaps[0].Locs) },
		func(c *api.Catalog) { c.Snaps[0].Locs[0].File = 3 },
		func(c *api.Catalog) { c.Snaps[0].Locs[0].File = 0 },
		func(c *api.Catalog) { c.Snaps[0].Locs[0].Vol = -1 },
		func(c *api.Catalog) { c.Snaps[0].Locs[1].Vol = 4 },
		func(c *api.Catalog) { c.Snaps[0].Locs[1].Vol = 2 },
		func(c *api.Catalog) { c.Snaps[0].Locs[1].Vol = 3 },
		func(c *api.Catalog) { c.Snaps[0].Locs[0].Off = -1 },
		func(c *api.Catalog) { c.Snaps[0].Locs[0].Off = 1 << 24 },
		func(c *api.Catalog) { c.Snaps[0].Locs[0].Len = 12 },
		func(c *api.Catalog) { c.Snaps[0].Locs[0].Len = 14 + api.MaxFrame },
		func(c *api.Catalog) {
			c.Snaps[1].Locs = []api.Loc{{Vol: 0, File: 1, Off: 1, Len: 13}, {Vol: 0, File: 1, Off: 1, Len: 14}}
		},
		func(c *api.Catalog) {
			for i := range api.MaxChunks {
				c.Chunks = append(c.Chunks, api.Chunk{Id: [32]byte{200, byte(i)}, Staged: true, Data: []byte{1}})
			}
		},
		func(c *api.Catalog) { c.Chunks[1].Id = id(1) },
		func(c *api.Catalog) { c.Chunks[1].Id = id(4) },
		func(c *api.Catalog) { c.Chunks[0].Data = nil },
		func(c *api.Catalog) { c.Chunks[0].Data = make([]byte, api.MaxChunk+1) },
		func(c *api.Catalog) { c.Chunks[0].Staged = false },
		func(c *api.Catalog) { c.Chunks[1].Data = []byte{1} },
		func(c *api.Catalog) { c.Chunks[1].Locs = nil },
		func(c *api.Catalog) { c.Chunks[1].Locs[0] = c.Chunks[1].Locs[1] },
		func(c *api.Catalog) {
			c.Chunks[1].Locs = nil
			for i := range api.MaxPlaces + 1 {
				c.Chunks[1].Locs = append(c.Chunks[1].Locs, loc(0, 1, i))
			}
		},
		func(c *api.Catalog) {
			c.Seq = 1000
			for i := range api.MaxExps {
				c.Exps = append(c.Exps, api.Exp{Seq: 100 + i, Locs: []api.Loc{loc(0, 1, 0)}})
			}
		},
		func(c *api.Catalog) { c.Exps[0].Seq = 5 },
		func(c *api.Catalog) { c.Exps[1].Seq = 9 },
		func(c *api.Catalog) { c.Exps[0].Seq = 0 },
		func(c *api.Catalog) { c.Exps[0].Of = -1 },
		func(c *api.Catalog) { c.Exps[0].Of = 2 },
		func(c *api.Catalog) { c.Exps[0].Of = 1 },
		func(c *api.Catalog) { c.Exps[0].Locs = nil },
		func(c *api.Catalog) { c.Exps[0].Locs[0].File = 3 },
		func(c *api.Catalog) { c.Vols = append(c.Vols, make([]api.Vol, 5)...) },
		func(c *api.Catalog) {
			*c = api.Catalog{Vols: slices.Repeat([]api.Vol{{State: api.VolScratch}}, api.MaxVols+1)}
		},
		func(c *api.Catalog) { c.Vols[2].Pool = 2 },
		func(c *api.Catalog) { c.Vols[2].Pool = -1 },
		func(c *api.Catalog) { c.Vols[2].Epoch = -1 },
		func(c *api.Catalog) { c.Vols[2].Epoch = api.MaxEpoch + 1 },
		func(c *api.Catalog) { c.Vols[2].State = 0 },
		func(c *api.Catalog) { c.Vols[2].State = 4 },
		func(c *api.Catalog) { c.Vols[2].Files = 1 },
		func(c *api.Catalog) { c.Vols[3].Files = 1 },
		func(c *api.Catalog) { c.Vols[1].Files = 65536 },
		func(c *api.Catalog) { c.Vols[2].State = api.VolFilling },
	}
}

func TestCheckRefuses(t *testing.T) {
	for i, fault := range faults() {
		c := sample()
		fault(&c)
		if e := Check(c); e != api.ErrArg {
			t.Error(i, e)
		}
		if b, e := Bytes(c); e != api.ErrArg || len(b) != 0 {
			t.Error(i, e)
		}
	}
}

func TestBytes(t *testing.T) {
	c := api.Catalog{
		Seq:    0x0102,
		Snaps:  []api.Snap{{Seq: 3, Man: api.Manifest{Name: "n"}, Locs: []api.Loc{{Vol: 0, File: 2, Off: 0x010203, Len: 0x0102}}}},
		Chunks: []api.Chunk{{Id: id(7), Staged: true, Data: []byte("ab")}, {Id: id(8), Locs: []api.Loc{loc(0, 1, 0)}}},
		Exps:   []api.Exp{{Seq: 5, Of: 4, Locs: []api.Loc{loc(0, 1, 1)}}},
		Vols:   []api.Vol{{Pool: 1, State: api.VolFilling, Epoch: 6, Files: 258}},
	}
	seven, eight := id(7), id(8)
	want := bytes.Join([][]byte{
		{0, 0, 1, 2, 1, 0, 0, 0, 3, 0, 0, 0, 3, 1, 'n', 0, 1, 0, 0, 2, 1, 2, 3, 1, 2},
		{0, 2}, seven[:], {1, 2, 'a', 'b', 0}, eight[:], {0, 0, 1, 0, 0, 1, 0, 0, 0, 0, 13},
		{0, 1, 0, 0, 0, 5, 0, 0, 0, 4, 1, 0, 0, 1, 0, 0, 1, 0, 13},
		{1, 1, 2, 0, 0, 0, 6, 1, 2},
	}, nil)
	got, e := Bytes(c)
	if e != api.OK || !bytes.Equal(got, want) {
		t.Errorf("%v, %d, not %v", got, e, want)
	}
}

func TestReadGivesWhatBytesWasGiven(t *testing.T) {
	c := sample()
	b, e := Bytes(c)
	if e != api.OK {
		t.Fatal(e)
	}
	got, e := Read(b)
	if e != api.OK || !same(got, c) || len(got.Snaps) != 2 || !reflect.DeepEqual(got.Vols, c.Vols) || !reflect.DeepEqual(got.Exps, c.Exps) || !reflect.DeepEqual(got.Chunks[2], c.Chunks[2]) {
		t.Error(got, e)
	}
	for n := range b {
		if c, e := Read(b[:n]); e != api.ErrBytes || !reflect.DeepEqual(c, api.Catalog{}) {
			t.Fatal(n, e)
		}
	}
	if _, e := Read(append(bytes.Clone(b), 0)); e != api.ErrBytes {
		t.Error("a byte too many", e)
	}
	for i := range b {
		for _, x := range []byte{1, 2, 128, 255} {
			bad := bytes.Clone(b)
			bad[i] ^= x
			if c, e := Read(bad); e == api.OK {
				again, _ := Bytes(c)
				if !bytes.Equal(again, bad) {
					t.Fatal("another encoding is read", i, x)
				}
			}
		}
	}
}

func TestQuestionsOnAnyCatalog(t *testing.T) {
	c := sample()
	c.Chunks = append(c.Chunks, api.Chunk{Id: id(2), Staged: true, Data: make([]byte, 100)}, api.Chunk{Id: id(9), Data: make([]byte, 50)})
	c.Snaps = append(c.Snaps, api.Snap{Man: api.Manifest{Name: "one"}})
	was := copies.Catalog(c)
	if Snap(c, "one") != 0 || Snap(c, "two") != 1 || Snap(c, "") != -1 || Snap(api.Catalog{}, "one") != -1 {
		t.Error("Snap")
	}
	if Chunk(c, id(2)) != 1 || Chunk(c, id(9)) != 4 || Chunk(c, id(7)) != -1 {
		t.Error("Chunk")
	}
	if !Used(c, id(1)) || !Used(c, id(3)) || Used(c, id(2)) || Used(api.Catalog{}, id(0)) {
		t.Error("Used")
	}
	if Staged(c) != 105 || Staged(api.Catalog{}) != 0 {
		t.Error("Staged")
	}
	l := []api.Loc{loc(-1, 0, 0), loc(4, 0, 0), loc(2, 0, 0)}
	if !In(c, l, 1) || In(c, l, 0) || In(c, nil, 0) || In(c, l[:2], 0) || In(api.Catalog{}, l, 1) || !In(c, []api.Loc{loc(math.MaxInt, 0, 0), loc(3, 0, 0)}, 0) || In(c, l, 7) {
		t.Error("In")
	}
	if !In(c, []api.Loc{loc(0, 1, 0)}, 0) || In(c, []api.Loc{loc(0, 1, 0)}, 1) {
		t.Error("In on the first volume")
	}
	if !reflect.DeepEqual(c, was) {
		t.Error("the argument was changed")
	}
}
