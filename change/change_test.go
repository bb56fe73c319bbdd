package change

import (
	"bytes"
	"math"
	"reflect"
	"slices"
	"testing"

	"cellarer/api"
	"cellarer/catalog"
	"cellarer/copies"
)

func id(n byte) [32]byte { return [32]byte{n} }

func loc(vol, file, off int) api.Loc { return api.Loc{Vol: vol, File: file, Off: off, Len: 20} }

func man(name string, ids ...byte) api.Manifest {
	m := api.Manifest{Name: name}
	if len(ids) > 0 {
		p := api.Part{Path: "p", Size: 5}
		for _, n := range ids {
			p.Ids = append(p.Ids, id(n))
		}
		m.Parts = []api.Part{p}
	}
	return m
}

// sample: snapshot 1 uses the chunks 1 and 2, snapshot 3 uses 2 and 3, chunk 4 is unused; volumes 0 and 1 are of pool 0, 2 and 3 of pool 1.
func sample() api.Catalog {
	return api.Catalog{
		Seq:   5,
		Snaps: []api.Snap{{Seq: 1, Man: man("one", 1, 2), Locs: []api.Loc{loc(0, 1, 90)}}, {Seq: 3, Man: man("three", 2, 3)}},
		Chunks: []api.Chunk{
			{Id: id(1), Locs: []api.Loc{loc(0, 1, 0), loc(2, 1, 0)}},
			{Id: id(2), Staged: true, Data: []byte("two")},
			{Id: id(3), Staged: true, Data: []byte("three"), Locs: []api.Loc{loc(2, 1, 50)}},
			{Id: id(4), Locs: []api.Loc{loc(0, 2, 0)}},
		},
		Exps: []api.Exp{{Seq: 4, Of: 0, Locs: []api.Loc{loc(0, 2, 20)}}},
		Vols: []api.Vol{{Pool: 0, State: api.VolFilling, Files: 2}, {Pool: 0, State: api.VolScratch}, {Pool: 1, Epoch: 6, State: api.VolFilling, Files: 1}, {Pool: 1, Epoch: 7, State: api.VolRetired}},
	}
}

// same compares two catalogs, for which nil and empty lists are one.
func same(a, b api.Catalog) bool {
	x, e := catalog.Bytes(a)
	y, f := catalog.Bytes(b)
	return e == api.OK && f == api.OK && bytes.Equal(x, y)
}

// becomes sees that x makes of the sample what edit makes of it.
func becomes(t *testing.T, what string, x api.Change, edit func(c *api.Catalog)) {
	t.Helper()
	was, want := sample(), sample()
	edit(&want)
	got, e := Apply(was, x)
	if e != api.OK || !same(got, want) {
		t.Errorf("%s: %d, %+v, not %+v", what, e, got, want)
		return
	}
	for i := range got.Chunks {
		clear(got.Chunks[i].Data)
		clear(got.Chunks[i].Locs)
	}
	for i := range got.Snaps {
		clear(got.Snaps[i].Man.Parts)
		clear(got.Snaps[i].Locs)
	}
	clear(got.Vols)
	if !same(was, sample()) {
		t.Errorf("%s: the argument was changed", what)
	}
}

func refused(t *testing.T, what string, c api.Catalog, x api.Change, want api.Errno) {
	t.Helper()
	got, e := Apply(c, x)
	if e != want || !reflect.DeepEqual(got, api.Catalog{}) {
		t.Errorf("%s: %d, not %d", what, e, want)
	}
}

func staged(n byte, data string) api.Chunk {
	return api.Chunk{Id: id(n), Staged: true, Data: []byte(data)}
}

func TestApplyRefusesKindsAndCatalogs(t *testing.T) {
	for _, kind := range []int{0, 6, -1, math.MaxInt} {
		refused(t, "kind", sample(), api.Change{Kind: kind}, api.ErrArg)
	}
	bad := sample()
	bad.Seq = 2
	refused(t, "catalog", bad, api.Change{Kind: api.ChDrop, Seq: 9}, api.ErrArg)
	refused(t, "zero catalog", api.Catalog{}, api.Change{Kind: api.ChDrop, Seq: 9}, api.ErrArg)
}

func TestAdd(t *testing.T) {
	x := api.Change{Kind: api.ChAdd, Snap: api.Snap{Seq: 5, Man: man("new", 0, 1, 9)}, Chunks: []api.Chunk{staged(9, "nine"), staged(0, "zero"), staged(1, "one")}}
	becomes(t, "add", x, func(c *api.Catalog) {
		c.Seq = 6
		c.Snaps = append(c.Snaps, api.Snap{Seq: 5, Man: man("new", 0, 1, 9)})
		c.Chunks[0].Staged, c.Chunks[0].Data = true, []byte("one")
		c.Chunks = append([]api.Chunk{staged(0, "zero")}, append(c.Chunks, staged(9, "nine"))...)
	})
	with := func(edit func(x *api.Change)) api.Change {
		y := x
		y.Chunks = copies.Each(x.Chunks, copies.Chunk)
		edit(&y)
		return y
	}
	refused(t, "seq", sample(), with(func(x *api.Change) { x.Snap.Seq, x.Snap.Man.Name = 4, "one" }), api.ErrArg)
	refused(t, "locs", sample(), with(func(x *api.Change) { x.Snap.Locs = []api.Loc{loc(0, 1, 0)} }), api.ErrArg)
	refused(t, "unstaged", sample(), with(func(x *api.Change) { x.Chunks[1].Staged, x.Snap.Man.Name = false, "one" }), api.ErrArg)
	refused(t, "chunk with locs", sample(), with(func(x *api.Change) { x.Chunks[1].Locs = []api.Loc{loc(0, 1, 0)} }), api.ErrArg)
	refused(t, "name", sample(), with(func(x *api.Change) { x.Snap.Man = man("one", 99) }), api.ErrTwice)
	refused(t, "missing chunk", sample(), with(func(x *api.Change) { x.Chunks = x.Chunks[:1] }), api.ErrArg)
	refused(t, "long chunk", sample(), with(func(x *api.Change) { x.Chunks[0].Data = make([]byte, api.MaxChunk+1) }), api.ErrArg)
	refused(t, "empty chunk", sample(), with(func(x *api.Change) { x.Chunks[0].Data = nil }), api.ErrArg)
	refused(t, "no name", sample(), with(func(x *api.Change) { x.Snap.Man.Name = "" }), api.ErrArg)
	many := with(func(x *api.Change) {
		for i := range api.MaxChunks {
			x.Chunks = append(x.Chunks, api.Chunk{Id: [32]byte{50, byte(i)}, Staged: true, Data: []byte{1}})
		}
	})
	refused(t, "many chunks", sample(), many, api.ErrArg)
	last := sample()
	last.Seq = api.MaxSeq
	refused(t, "last seq", last, with(func(x *api.Change) { x.Snap.Seq = api.MaxSeq }), api.ErrArg)
	c := sample()
	for i := 5; len(c.Snaps) < api.MaxSnaps; i++ {
		c, _ = Apply(c, api.Change{Kind: api.ChAdd, Snap: api.Snap{Seq: i, Man: man(string(rune('A' + i)))}})
	}
	refused(t, "many snapshots", c, api.Change{Kind: api.ChAdd, Snap: api.Snap{Seq: c.Seq, Man: man("more")}}, api.ErrArg)
	refused(t, "a name among many", c, api.Change{Kind: api.ChAdd, Snap: api.Snap{Seq: c.Seq, Man: man("one")}}, api.ErrTwice)
}

func TestDrop(t *testing.T) {
	becomes(t, "drop one", api.Change{Kind: api.ChDrop, Seq: 1}, func(c *api.Catalog) { c.Snaps = c.Snaps[1:] })
	becomes(t, "drop three", api.Change{Kind: api.ChDrop, Seq: 3}, func(c *api.Catalog) {
		c.Snaps = c.Snaps[:1]
		c.Chunks[2].Staged, c.Chunks[2].Data = false, nil
	})
	c, _ := Apply(sample(), api.Change{Kind: api.ChDrop, Seq: 3})
	c, e := Apply(c, api.Change{Kind: api.ChDrop, Seq: 1})
	if e != api.OK || len(c.Chunks) != 3 || catalog.Chunk(c, id(2)) >= 0 || catalog.Staged(c) != 0 || c.Seq != 5 {
		t.Error(c, e)
	}
	for _, seq := range []int{0, 2, -1, 5, math.MaxInt} {
		refused(t, "no snapshot", sample(), api.Change{Kind: api.ChDrop, Seq: seq}, api.ErrNone)
	}
}

func TestWrote(t *testing.T) {
	items := []api.Item{{Kind: api.RecChunk, Id: id(2), Off: 7, Len: 30}, {Kind: api.RecManifest, Seq: 3, Off: 8, Len: 40}, {Kind: api.RecExpire, Seq: 4, Of: 0, Off: 9, Len: 17}}
	becomes(t, "scratch volume", api.Change{Kind: api.ChWrote, Vol: 1, Items: items}, func(c *api.Catalog) {
		c.Vols[1].State, c.Vols[1].Files = api.VolFilling, 1
		c.Chunks[1] = api.Chunk{Id: id(2), Locs: []api.Loc{{Vol: 1, File: 1, Off: 7, Len: 30}}}
		c.Snaps[1].Locs = []api.Loc{{Vol: 1, File: 1, Off: 8, Len: 40}}
		c.Exps[0].Locs = append(c.Exps[0].Locs, api.Loc{Vol: 1, File: 1, Off: 9, Len: 17})
	})
	becomes(t, "filling volume in the midst", api.Change{Kind: api.ChWrote, Vol: 0, Items: []api.Item{{Kind: api.RecChunk, Id: id(1), Off: 7, Len: 30}, {Kind: api.RecChunk, Id: id(1), Off: 6, Len: 31}, {Kind: api.RecChunk, Id: id(3), Off: 9, Len: 30}}}, func(c *api.Catalog) {
		c.Vols[0].Files = 3
		c.Chunks[0].Locs = []api.Loc{loc(0, 1, 0), {Vol: 0, File: 3, Off: 6, Len: 31}, {Vol: 0, File: 3, Off: 7, Len: 30}, loc(2, 1, 0)}
		c.Chunks[2] = api.Chunk{Id: id(3), Locs: []api.Loc{{Vol: 0, File: 3, Off: 9, Len: 30}, loc(2, 1, 50)}}
	})
	becomes(t, "pool 1", api.Change{Kind: api.ChWrote, Vol: 2, Items: items[:1]}, func(c *api.Catalog) {
		c.Vols[2].Files = 2
		c.Chunks[1].Locs = []api.Loc{{Vol: 2, File: 2, Off: 7, Len: 30}}
	})
	becomes(t, "expiry of one", api.Change{Kind: api.ChWrote, Vol: 1, Items: []api.Item{{Kind: api.RecExpire, Seq: 9, Of: 1, Len: 17}}}, func(c *api.Catalog) {
		c.Vols[1].State, c.Vols[1].Files = api.VolFilling, 1
		c.Exps = append(c.Exps, api.Exp{Seq: 9, Of: 1, Locs: []api.Loc{{Vol: 1, File: 1, Len: 17}}})
		c.Seq = 10
		c.Snaps = c.Snaps[1:]
	})
	becomes(t, "expiry of three", api.Change{Kind: api.ChWrote, Vol: 2, Items: []api.Item{{Kind: api.RecExpire, Seq: 5, Of: 3, Len: 17}}}, func(c *api.Catalog) {
		c.Vols[2].Files = 2
		c.Exps = append(c.Exps, api.Exp{Seq: 5, Of: 3, Locs: []api.Loc{{Vol: 2, File: 2, Len: 17}}})
		c.Seq = 6
		c.Snaps = c.Snaps[:1]
		c.Chunks[2].Staged, c.Chunks[2].Data = false, nil
	})
	becomes(t, "an earlier expiry", api.Change{Kind: api.ChWrote, Vol: 2, Items: []api.Item{{Kind: api.RecExpire, Seq: 2, Of: 0, Len: 17}}}, func(c *api.Catalog) {
		c.Vols[2].Files = 2
		c.Exps = append([]api.Exp{{Seq: 2, Of: 0, Locs: []api.Loc{{Vol: 2, File: 2, Len: 17}}}}, c.Exps...)
	})
}

func TestWroteOfManifestsAndManyItems(t *testing.T) {
	becomes(t, "the first snapshot", api.Change{Kind: api.ChWrote, Vol: 0, Items: []api.Item{{Kind: api.RecManifest, Seq: 1, Off: 4, Len: 30}}}, func(c *api.Catalog) {
		c.Vols[0].Files = 3
		c.Snaps[0].Locs = append(c.Snaps[0].Locs, api.Loc{Vol: 0, File: 3, Off: 4, Len: 30})
	})
	var items []api.Item
	for i := range api.MaxRecords {
		items = append(items, api.Item{Kind: api.RecChunk, Id: id(1), Off: i, Len: 30})
	}
	if c, e := Apply(sample(), api.Change{Kind: api.ChWrote, Vol: 0, Items: items}); e != api.OK || len(c.Chunks[0].Locs) != 2+api.MaxRecords {
		t.Error(e)
	}
	c := sample()
	c.Chunks = append([]api.Chunk{{Staged: true, Data: []byte("zero")}}, c.Chunks...)
	c, e := Apply(c, api.Change{Kind: api.ChWrote, Vol: 0, Items: []api.Item{{Kind: api.RecManifest, Seq: 3, Len: 30}}})
	if e != api.OK || !c.Chunks[0].Staged {
		t.Error("a manifest unstages the chunk with the zero id", e)
	}
	c, e = Apply(c, api.Change{Kind: api.ChWrote, Vol: 0, Items: []api.Item{{Kind: api.RecExpire, Seq: 6, Of: 2, Len: 30}}})
	if e != api.OK || len(c.Chunks) != 5 || !c.Chunks[0].Staged {
		t.Error("an expiry of no snapshot drops chunks", e)
	}
}

func TestWroteErrors(t *testing.T) {
	ok := api.Item{Kind: api.RecChunk, Id: id(2), Len: 30}
	with := func(vol int, l ...api.Item) api.Change { return api.Change{Kind: api.ChWrote, Vol: vol, Items: l} }
	for _, vol := range []int{-1, 4, 3, math.MaxInt} {
		refused(t, "volume", sample(), with(vol, ok), api.ErrArg)
	}
	refused(t, "no items", sample(), with(0), api.ErrArg)
	refused(t, "many items", sample(), with(0, slices.Repeat([]api.Item{{Kind: api.RecChunk, Id: id(99)}}, api.MaxRecords+1)...), api.ErrArg)
	for _, kind := range []int{0, api.RecHead, api.RecTail, -1} {
		refused(t, "kind", sample(), with(0, api.Item{Kind: api.RecChunk, Id: id(99), Len: 30}, api.Item{Kind: kind, Len: 30}), api.ErrArg)
	}
	refused(t, "chunk", sample(), with(0, ok, api.Item{Kind: api.RecChunk, Id: id(99), Len: 30}), api.ErrNone)
	refused(t, "manifest", sample(), with(0, ok, api.Item{Kind: api.RecManifest, Seq: 2, Len: 30}), api.ErrNone)
	refused(t, "length", sample(), with(0, api.Item{Kind: api.RecChunk, Id: id(2), Len: 12}), api.ErrArg)
	refused(t, "offset", sample(), with(0, api.Item{Kind: api.RecChunk, Id: id(2), Off: -1, Len: 30}), api.ErrArg)
	refused(t, "twice at one place", sample(), with(0, ok, ok), api.ErrArg)
	refused(t, "of itself", sample(), with(0, api.Item{Kind: api.RecExpire, Seq: 7, Of: 7, Len: 17}), api.ErrArg)
	for _, seq := range []int{-1, math.MinInt, api.MaxSeq, math.MaxInt} {
		refused(t, "expiry's seq", sample(), with(0, api.Item{Kind: api.RecExpire, Seq: seq, Len: 17}), api.ErrArg)
	}
	if _, e := Apply(sample(), with(0, api.Item{Kind: api.RecExpire, Seq: api.MaxSeq - 1, Len: 17})); e != api.OK {
		t.Error("the last seq", e)
	}
	full := sample()
	full.Vols[0].Files = 65535
	refused(t, "files", full, with(0, ok), api.ErrArg)
}

func TestRetireAndRelabel(t *testing.T) {
	becomes(t, "retire 2", api.Change{Kind: api.ChRetire, Vol: 2}, func(c *api.Catalog) {
		c.Vols[2].State, c.Vols[2].Files = api.VolRetired, 0
		c.Chunks[0].Locs = c.Chunks[0].Locs[:1]
		c.Chunks[2].Locs = nil
	})
	becomes(t, "retire 0", api.Change{Kind: api.ChRetire, Vol: 0}, func(c *api.Catalog) {
		c.Vols[0].State, c.Vols[0].Files = api.VolRetired, 0
		c.Snaps[0].Locs = nil
		c.Chunks[0].Locs = c.Chunks[0].Locs[1:]
		c.Chunks = c.Chunks[:3]
		c.Exps = nil
	})
	only := sample()
	only.Chunks[0].Locs = only.Chunks[0].Locs[:1]
	refused(t, "a used chunk is lost", only, api.Change{Kind: api.ChRetire, Vol: 0}, api.ErrArg)
	becomes(t, "relabel", api.Change{Kind: api.ChRelabel, Vol: 3}, func(c *api.Catalog) {
		c.Vols[3].State, c.Vols[3].Epoch = api.VolScratch, 8
	})
	for _, vol := range []int{-1, 1, 3, 4, math.MinInt} {
		refused(t, "retire", sample(), api.Change{Kind: api.ChRetire, Vol: vol}, api.ErrArg)
	}
	for _, vol := range []int{-1, 0, 1, 4, math.MaxInt} {
		refused(t, "relabel", sample(), api.Change{Kind: api.ChRelabel, Vol: vol}, api.ErrArg)
	}
	last := sample()
	last.Vols[3].Epoch = api.MaxEpoch
	refused(t, "last epoch", last, api.Change{Kind: api.ChRelabel, Vol: 3}, api.ErrArg)
}

func TestBytes(t *testing.T) {
	one, two := id(1), id(2)
	chunk := append([]byte{api.RecChunk}, one[:]...)
	none := make([]byte, 32)
	for i, c := range []struct {
		x    api.Change
		want []byte
	}{
		{api.Change{Kind: api.ChDrop, Seq: 258}, []byte{2, 0, 0, 1, 2}},
		{api.Change{Kind: api.ChRetire, Vol: 255}, []byte{4, 255}},
		{api.Change{Kind: api.ChRelabel, Vol: 3}, []byte{5, 3}},
		{api.Change{Kind: api.ChAdd, Snap: api.Snap{Seq: 7, Man: man("n")}, Chunks: []api.Chunk{staged(1, "ab"), staged(2, "")}},
			slices.Concat([]byte{1, 0, 0, 0, 7, 0, 0, 0, 3, 1, 'n', 0, 0, 2}, one[:], []byte{2, 'a', 'b'}, two[:], []byte{0})},
		{api.Change{Kind: api.ChWrote, Vol: 2, Items: []api.Item{{Kind: api.RecChunk, Id: one, Off: 0x010203, Len: 0x0405}, {Kind: api.RecExpire, Seq: 6, Of: 5}, {Kind: api.RecManifest, Seq: 1<<32 - 1}}},
			slices.Concat([]byte{3, 2, 3}, chunk, []byte{0, 0, 0, 0, 0, 0, 0, 0, 1, 2, 3, 4, 5}, []byte{3}, none, []byte{0, 0, 0, 6, 0, 0, 0, 5, 0, 0, 0, 0, 0}, []byte{2}, none, []byte{255, 255, 255, 255, 0, 0, 0, 0, 0, 0, 0, 0, 0})},
		{api.Change{Kind: api.ChWrote}, []byte{3, 0, 0}},
	} {
		got, e := Bytes(c.x)
		if e != api.OK || !bytes.Equal(got, c.want) {
			t.Errorf("case %d: %v, %d, not %v", i, got, e, c.want)
			continue
		}
		back, e := Read(got)
		if again, f := Bytes(back); e != api.OK || f != api.OK || !bytes.Equal(again, got) || back.Kind != c.x.Kind || back.Vol != c.x.Vol || back.Seq != c.x.Seq || !slices.Equal(back.Items, c.x.Items) || len(back.Chunks) != len(c.x.Chunks) {
			t.Errorf("case %d: %v, %d", i, back, e)
		}
		for n := range got {
			if x, e := Read(got[:n]); e != api.ErrBytes || !reflect.DeepEqual(x, api.Change{}) {
				t.Errorf("case %d: %d bytes: %d", i, n, e)
			}
		}
		if _, e := Read(append(bytes.Clone(got), 0)); e != api.ErrBytes {
			t.Errorf("case %d: a byte too many: %d", i, e)
		}
	}
}

func TestBytesErrors(t *testing.T) {
	add := func(edit func(x *api.Change)) api.Change {
		x := api.Change{Kind: api.ChAdd, Snap: api.Snap{Man: man("n")}, Chunks: []api.Chunk{staged(1, "a")}}
		edit(&x)
		return x
	}
	wrote := func(it api.Item) api.Change { return api.Change{Kind: api.ChWrote, Items: []api.Item{it}} }
	items := []api.Item{{}}
	for i, x := range []api.Change{
		{}, {Kind: 6}, {Kind: -1},
		add(func(x *api.Change) { x.Seq = 1 }), add(func(x *api.Change) { x.Vol = 1 }), add(func(x *api.Change) { x.Items = items }),
		add(func(x *api.Change) { x.Snap.Seq = -1 }), add(func(x *api.Change) { x.Snap.Seq = 1 << 32 }), add(func(x *api.Change) { x.Snap.Man.Name = "" }),
		add(func(x *api.Change) { x.Snap.Locs = []api.Loc{{}} }), add(func(x *api.Change) { x.Chunks[0].Staged = false }), add(func(x *api.Change) { x.Chunks[0].Locs = []api.Loc{{}} }),
		add(func(x *api.Change) { x.Chunks[0].Data = make([]byte, 256) }), add(func(x *api.Change) { x.Chunks = slices.Repeat(x.Chunks, 65536) }),
		{Kind: api.ChDrop, Seq: -1}, {Kind: api.ChDrop, Seq: 1 << 32}, {Kind: api.ChDrop, Vol: 1}, {Kind: api.ChDrop, Items: items}, {Kind: api.ChDrop, Chunks: make([]api.Chunk, 1)}, {Kind: api.ChDrop, Snap: api.Snap{Seq: 1}},
		{Kind: api.ChDrop, Snap: api.Snap{Man: man("n")}}, {Kind: api.ChDrop, Snap: api.Snap{Locs: []api.Loc{{}}}}, {Kind: api.ChDrop, Snap: api.Snap{Man: api.Manifest{Parts: []api.Part{{}}}}},
		{Kind: api.ChRetire, Vol: -1}, {Kind: api.ChRetire, Vol: 256}, {Kind: api.ChRetire, Seq: 1}, {Kind: api.ChRelabel, Vol: 256}, {Kind: api.ChRelabel, Items: items}, {Kind: api.ChRelabel, Snap: api.Snap{Seq: 1}},
		{Kind: api.ChWrote, Vol: 256}, {Kind: api.ChWrote, Vol: -1}, {Kind: api.ChWrote, Seq: 1}, {Kind: api.ChWrote, Chunks: make([]api.Chunk, 1)}, {Kind: api.ChWrote, Items: slices.Repeat([]api.Item{{Kind: api.RecChunk}}, 256)},
		wrote(api.Item{}), wrote(api.Item{Kind: api.RecHead}), wrote(api.Item{Kind: api.RecTail}), wrote(api.Item{Kind: api.RecChunk, Seq: 1}), wrote(api.Item{Kind: api.RecChunk, Of: 1}), wrote(api.Item{Kind: api.RecManifest, Id: id(1)}),
		wrote(api.Item{Kind: api.RecManifest, Of: 1}), wrote(api.Item{Kind: api.RecExpire, Id: id(1)}), wrote(api.Item{Kind: api.RecExpire, Seq: -1}), wrote(api.Item{Kind: api.RecExpire, Of: 1 << 32}),
		wrote(api.Item{Kind: api.RecChunk, Off: 1 << 24}), wrote(api.Item{Kind: api.RecChunk, Off: -1}), wrote(api.Item{Kind: api.RecChunk, Len: 1 << 16}), wrote(api.Item{Kind: api.RecChunk, Len: math.MinInt}),
	} {
		if b, e := Bytes(x); e != api.ErrArg || len(b) != 0 {
			t.Errorf("case %d: %d", i, e)
		}
	}
	if _, e := Bytes(add(func(x *api.Change) { x.Chunks[0].Data = make([]byte, 255) })); e != api.OK {
		t.Error("255 bytes of Data", e)
	}
}

func TestReadRefusesOtherEncodings(t *testing.T) {
	b, _ := Bytes(api.Change{Kind: api.ChWrote, Items: []api.Item{{Kind: api.RecChunk, Id: id(1)}, {Kind: api.RecManifest, Seq: 1}}})
	for at, to := range map[int]byte{0: 6, 3: 4, 39: 1, 43: 1, 50: 7} {
		bad := bytes.Clone(b)
		bad[at] = to
		if x, e := Read(bad); e != api.ErrBytes || !reflect.DeepEqual(x, api.Change{}) {
			t.Error(at, e)
		}
	}
	if _, e := Read(nil); e != api.ErrBytes {
		t.Error(e)
	}
	if _, e := Read([]byte{0}); e != api.ErrBytes {
		t.Error(e)
	}
}
