package rebuild

import (
	"bytes"
	"crypto/sha256"
	"math"
	"math/rand"
	"reflect"
	"testing"

	"cellarer/api"
	"cellarer/catalog"
	"cellarer/copies"
	"cellarer/manifest"
)

func loc(vol, file, off int) api.Loc { return api.Loc{Vol: vol, File: file, Off: off, Len: 20} }

func vols() []api.Vol {
	return []api.Vol{{State: api.VolFilling, Files: 3, Epoch: 2}, {Pool: 1, State: api.VolFilling, Files: 3}, {State: api.VolScratch}}
}

func chunk(data string, l api.Loc) api.Found {
	return api.Found{Rec: api.Record{Kind: api.RecChunk, Data: []byte(data)}, Loc: l}
}

func exp(seq int, of byte, l api.Loc) api.Found {
	return api.Found{Rec: api.Record{Kind: api.RecExpire, Seq: seq, Data: []byte{0, 0, 0, of}}, Loc: l}
}

// man returns the manifest of a snapshot with a file for each of the texts.
func man(t *testing.T, name string, texts ...string) api.Manifest {
	t.Helper()
	var l []api.File
	for i, s := range texts {
		l = append(l, api.File{Path: string(rune('a' + i)), Data: []byte(s)})
	}
	m, _, e := manifest.Build(name, l)
	if e != api.OK {
		t.Fatal(e)
	}
	return m
}

func snap(t *testing.T, seq int, m api.Manifest, l api.Loc) api.Found {
	t.Helper()
	b, e := manifest.Bytes(m)
	if e != api.OK {
		t.Fatal(e)
	}
	return api.Found{Rec: api.Record{Kind: api.RecManifest, Seq: seq, Data: b}, Loc: l}
}

func from(t *testing.T, found ...api.Found) api.Catalog {
	t.Helper()
	c, e := From(vols(), found...)
	if e != api.OK {
		t.Fatal(e)
	}
	return c
}

// same compares two catalogs, for which nil and empty lists are one.
func same(a, b api.Catalog) bool {
	x, e := catalog.Bytes(a)
	y, f := catalog.Bytes(b)
	return e == api.OK && f == api.OK && bytes.Equal(x, y)
}

func seqs(c api.Catalog) []int {
	l := []int{}
	for _, s := range c.Snaps {
		l = append(l, s.Seq)
	}
	return l
}

func TestNothingFound(t *testing.T) {
	v := vols()
	c, e := From(v)
	if e != api.OK || !same(c, api.Catalog{Vols: vols()}) {
		t.Error(c, e)
	}
	c.Vols[0].Epoch = 9
	if v[0].Epoch != 2 {
		t.Error("the result shares memory with the argument")
	}
	for _, bad := range [][]api.Vol{nil, {{}}, make([]api.Vol, 9)} {
		if c, e := From(bad); e != api.ErrArg || !reflect.DeepEqual(c, api.Catalog{}) {
			t.Error(bad, e)
		}
	}
}

func TestChunks(t *testing.T) {
	a := sha256.Sum256([]byte("a"))
	c := from(t, chunk("a", loc(1, 2, 0)), chunk("a", loc(0, 3, 9)), chunk("a", loc(0, 3, 8)), chunk("a", loc(1, 2, 0)), chunk("", loc(0, 1, 0)), chunk(string(make([]byte, api.MaxChunk+1)), loc(0, 1, 0)), chunk(string(make([]byte, api.MaxChunk)), loc(0, 1, 0)))
	if len(c.Chunks) != 2 || c.Seq != 0 {
		t.Fatal(c)
	}
	k := c.Chunks[catalog.Chunk(c, a)]
	if k.Staged || len(k.Data) != 0 || !reflect.DeepEqual(k.Locs, []api.Loc{loc(0, 3, 8), loc(0, 3, 9), loc(1, 2, 0)}) {
		t.Error(k)
	}
}

func TestExps(t *testing.T) {
	long := api.Found{Rec: api.Record{Kind: api.RecExpire, Seq: 90, Data: make([]byte, 5)}, Loc: loc(0, 1, 0)}
	c := from(t, exp(7, 3, loc(1, 1, 0)), exp(5, 1, loc(0, 2, 0)), exp(7, 4, loc(0, 1, 0)), exp(7, 3, loc(1, 1, 0)), long)
	want := []api.Exp{{Seq: 5, Of: 1, Locs: []api.Loc{loc(0, 2, 0)}}, {Seq: 7, Of: 3, Locs: []api.Loc{loc(0, 1, 0), loc(1, 1, 0)}}}
	if !reflect.DeepEqual(c.Exps, want) || c.Seq != 8 {
		t.Error(c)
	}
	big := exp(258, 1, loc(0, 1, 0))
	big.Rec.Data[2] = 1
	if c := from(t, big); c.Exps[0].Of != 257 {
		t.Error(c)
	}
}

func TestSnaps(t *testing.T) {
	one, other := man(t, "one", "x"), man(t, "other", "x")
	bad := api.Found{Rec: api.Record{Kind: api.RecManifest, Seq: 80, Data: []byte("no manifest")}, Loc: loc(0, 1, 0)}
	c := from(t, snap(t, 6, one, loc(1, 1, 5)), chunk("x", loc(0, 1, 1)), snap(t, 6, other, loc(0, 1, 5)), snap(t, 3, other, loc(0, 2, 5)), snap(t, 6, one, loc(1, 1, 5)), bad)
	want := []api.Snap{{Seq: 3, Man: other, Locs: []api.Loc{loc(0, 2, 5)}}, {Seq: 6, Man: one, Locs: []api.Loc{loc(0, 1, 5), loc(1, 1, 5)}}}
	if !reflect.DeepEqual(c.Snaps, want) || c.Seq != 7 {
		t.Error(c)
	}
}

func TestSnapsThatAreLeftOut(t *testing.T) {
	x := chunk("x", loc(0, 1, 1))
	lone := man(t, "n", "missing", "x")
	for i, c := range []struct {
		found []api.Found
		want  []int
		seq   int
	}{
		{[]api.Found{x, snap(t, 4, man(t, "n", "x"), loc(0, 1, 5)), exp(9, 4, loc(0, 1, 9))}, []int{}, 10},
		{[]api.Found{x, snap(t, 4, man(t, "n", "x"), loc(0, 1, 5)), exp(9, 3, loc(0, 1, 9))}, []int{4}, 10},
		{[]api.Found{x, snap(t, 4, lone, loc(0, 1, 5))}, []int{}, 5},
		{[]api.Found{x, snap(t, 4, lone, loc(0, 1, 5)), chunk("missing", loc(1, 1, 0))}, []int{4}, 5},
		{[]api.Found{x, snap(t, 4, man(t, "n", "x"), loc(0, 1, 5)), snap(t, 2, man(t, "n"), loc(0, 1, 6)), snap(t, 3, man(t, "m"), loc(0, 1, 7))}, []int{3, 4}, 5},
		{[]api.Found{x, snap(t, 4, lone, loc(0, 1, 5)), snap(t, 2, man(t, "n"), loc(0, 1, 6))}, []int{2}, 5},
		{[]api.Found{x, snap(t, 4, man(t, "n"), loc(0, 1, 5)), snap(t, 2, man(t, "n"), loc(0, 1, 6)), exp(5, 4, loc(0, 1, 9))}, []int{2}, 6},
		{[]api.Found{exp(5, 4, loc(0, 1, 9)), exp(5, 3, loc(0, 1, 8)), snap(t, 3, man(t, "n"), loc(0, 1, 5))}, []int{3}, 6},
	} {
		got := from(t, c.found...)
		if !reflect.DeepEqual(seqs(got), c.want) || got.Seq != c.seq {
			t.Errorf("case %d: %v, %d", i, seqs(got), got.Seq)
		}
	}
}

func TestSeqs(t *testing.T) {
	lone := man(t, "n", "missing")
	if c := from(t, snap(t, -5, lone, loc(0, 1, 0))); c.Seq != 0 {
		t.Error(c.Seq)
	}
	if c := from(t, snap(t, api.MaxSeq-1, lone, loc(0, 1, 0))); c.Seq != api.MaxSeq {
		t.Error(c.Seq)
	}
	for _, seq := range []int{api.MaxSeq, math.MaxInt} {
		if _, e := From(vols(), snap(t, seq, lone, loc(0, 1, 0))); e != api.ErrArg {
			t.Error(seq, e)
		}
	}
	if _, e := From(vols(), snap(t, -1, man(t, "n"), loc(0, 1, 0))); e != api.ErrArg {
		t.Error(e)
	}
}

func TestInvalidCatalogs(t *testing.T) {
	for i, l := range [][]api.Found{
		{chunk("a", loc(2, 1, 0))}, {chunk("a", loc(0, 4, 0))}, {chunk("a", loc(-1, 1, 0))}, {chunk("a", loc(0, 1, 0)), chunk("a", api.Loc{File: 1, Len: 21})},
		{exp(5, 5, loc(0, 1, 0))}, {exp(-5, 0, loc(0, 1, 0))},
	} {
		if c, e := From(vols(), l...); e != api.ErrArg || !reflect.DeepEqual(c, api.Catalog{}) {
			t.Error(i, e)
		}
	}
	var many []api.Found
	for i := range api.MaxChunks + 1 {
		many = append(many, chunk(string([]byte{byte(i), byte(i >> 8)}), loc(0, 1, i)))
	}
	if _, e := From(vols(), many...); e != api.ErrArg {
		t.Error(e)
	}
	from(t, many[1:]...)
}

func TestOtherKindsAreIgnored(t *testing.T) {
	var l []api.Found
	for _, kind := range []int{0, api.RecHead, api.RecTail, -1, math.MaxInt} {
		l = append(l, api.Found{Rec: api.Record{Kind: kind, Seq: math.MaxInt, Data: make([]byte, 4)}, Loc: loc(-9, 0, 0)})
	}
	if c := from(t, l...); !same(c, api.Catalog{Vols: vols()}) {
		t.Error(c)
	}
}

// sample is a catalog of which a part is on tapes only, a part on the disk only, and a part on both.
func sample(t *testing.T) (api.Catalog, []api.Found) {
	t.Helper()
	r := rand.New(rand.NewSource(1))
	taped, disked, both := man(t, "taped", "t"), man(t, "disked", "d", "b"), man(t, "both", "b")
	id := func(s string) [32]byte { return sha256.Sum256([]byte(s)) }
	c := api.Catalog{Seq: 9, Vols: vols(), Snaps: []api.Snap{{Seq: 3, Man: taped, Locs: []api.Loc{loc(0, 1, 7), loc(1, 1, 7)}}, {Seq: 5, Man: both, Locs: []api.Loc{loc(0, 3, 0)}}, {Seq: 8, Man: disked}}}
	for _, k := range []api.Chunk{{Id: id("t"), Locs: []api.Loc{loc(0, 1, 0), loc(1, 1, 0)}}, {Id: id("b"), Staged: true, Data: []byte("b"), Locs: []api.Loc{loc(0, 2, 0)}}, {Id: id("d"), Staged: true, Data: []byte("d")}, {Id: id("u"), Locs: []api.Loc{loc(0, 2, 9)}}} {
		i := 0
		for i < len(c.Chunks) && bytes.Compare(c.Chunks[i].Id[:], k.Id[:]) < 0 {
			i++
		}
		c.Chunks = append(c.Chunks[:i:i], append([]api.Chunk{k}, c.Chunks[i:]...)...)
	}
	c.Exps = []api.Exp{{Seq: 4, Of: 2, Locs: []api.Loc{loc(0, 1, 30)}}}
	found := []api.Found{
		chunk("t", loc(0, 1, 0)), chunk("t", loc(1, 1, 0)), chunk("b", loc(0, 2, 0)), chunk("u", loc(0, 2, 9)), exp(4, 2, loc(0, 1, 30)),
		snap(t, 3, taped, loc(0, 1, 7)), snap(t, 3, taped, loc(1, 1, 7)), snap(t, 5, both, loc(0, 3, 0)),
	}
	r.Shuffle(len(found), func(i, j int) { found[i], found[j] = found[j], found[i] })
	return c, found
}

func TestPart(t *testing.T) {
	c, found := sample(t)
	if catalog.Check(c) != api.OK {
		t.Fatal("the sample is not valid")
	}
	was := copies.Catalog(c)
	part := Part(c)
	if part.Seq != 6 || len(part.Snaps) != 2 || len(part.Chunks) != 3 || catalog.Staged(part) != 0 || len(part.Exps) != 1 || catalog.Check(part) != api.OK {
		t.Error(part)
	}
	if got := from(t, found...); !same(got, part) {
		t.Errorf("%+v, not %+v", got, part)
	}
	part.Chunks[0].Locs[0].Vol = 9
	part.Vols[0].Pool = 9
	if !same(c, was) {
		t.Error("the argument was changed")
	}
	c.Snaps = c.Snaps[2:]
	c.Exps[0].Seq = 7
	if part := Part(c); part.Seq != 8 || len(part.Snaps) != 0 {
		t.Error(part)
	}
	c.Exps = nil
	if part := Part(c); part.Seq != 0 {
		t.Error(part)
	}
	c.Seq = 0
	for _, bad := range []api.Catalog{c, {}} {
		if part := Part(bad); !reflect.DeepEqual(part, api.Catalog{}) {
			t.Error(part)
		}
	}
}
