package stage

import (
	"math"
	"slices"
	"testing"

	"cellarer/api"
	"cellarer/catalog"
)

func id(n byte) [32]byte { return [32]byte{n} }

func at(vols ...int) []api.Loc {
	var l []api.Loc
	for _, v := range vols {
		l = append(l, api.Loc{Vol: v, File: 1, Len: 20})
	}
	return l
}

func chunk(n byte) api.Item    { return api.Item{Kind: api.RecChunk, Id: id(n)} }
func snap(seq int) api.Item    { return api.Item{Kind: api.RecManifest, Seq: seq} }
func exp(seq, of int) api.Item { return api.Item{Kind: api.RecExpire, Seq: seq, Of: of} }

// sample has the volumes 0 and 1 in pool 0, and 2 and 3 in pool 1; all chunks below 10 are used, the others are not.
func sample(t *testing.T) api.Catalog {
	t.Helper()
	ids := [][32]byte{id(1), id(2), id(3), id(4), id(5)}
	c := api.Catalog{
		Seq: 20,
		Snaps: []api.Snap{
			{Seq: 4, Man: api.Manifest{Name: "a", Parts: []api.Part{{Path: "p", Size: 9, Ids: ids}}}},
			{Seq: 5, Man: api.Manifest{Name: "b"}, Locs: at(0)}, {Seq: 6, Man: api.Manifest{Name: "c"}, Locs: at(2)}, {Seq: 7, Man: api.Manifest{Name: "d"}, Locs: at(0, 1)}, {Seq: 8, Man: api.Manifest{Name: "e"}, Locs: at(1, 3)},
		},
		Chunks: []api.Chunk{
			{Id: id(1), Staged: true, Data: []byte("s")}, {Id: id(2), Locs: at(0)}, {Id: id(3), Locs: at(2)}, {Id: id(4), Locs: at(0, 2)}, {Id: id(5), Locs: at(0, 1)},
			{Id: id(11), Staged: true, Data: []byte("s")}, {Id: id(12), Locs: at(0)}, {Id: id(13), Locs: at(3)},
		},
		Exps: []api.Exp{{Seq: 9, Of: 1, Locs: at(0)}, {Seq: 10, Of: 2, Locs: at(3)}, {Seq: 11, Of: 3, Locs: at(1, 2)}},
	}
	for i := range 4 {
		c.Vols = append(c.Vols, api.Vol{Pool: i / 2, State: api.VolFilling, Files: 1})
	}
	if catalog.Check(c) != api.OK {
		t.Fatal("the sample is not valid")
	}
	return c
}

func expect(t *testing.T, what string, got []api.Item, want ...api.Item) {
	t.Helper()
	if !slices.Equal(got, want) {
		t.Errorf("%s: %v, not %v", what, got, want)
	}
}

func TestLacks(t *testing.T) {
	c := sample(t)
	expect(t, "pool 0", Lacks(c, 0), chunk(1), chunk(3), snap(4), snap(6), exp(10, 2))
	expect(t, "pool 1", Lacks(c, 1), chunk(2), chunk(5), snap(5), snap(7), exp(9, 1))
	for _, pool := range []int{2, -1, math.MaxInt} {
		expect(t, "no pool", Lacks(c, pool))
	}
}

func TestOnAndMoves(t *testing.T) {
	c := sample(t)
	expect(t, "on 0", On(c, 0), chunk(2), chunk(4), chunk(5), chunk(12), snap(5), snap(7), exp(9, 1))
	expect(t, "on 2", On(c, 2), chunk(3), chunk(4), snap(6), exp(11, 3))
	expect(t, "moves of 0", Moves(c, 0), chunk(2), chunk(4), snap(5), exp(9, 1))
	expect(t, "moves of 1", Moves(c, 1), snap(8), exp(11, 3))
	expect(t, "moves of 2", Moves(c, 2), chunk(3), chunk(4), snap(6), exp(11, 3))
	expect(t, "moves of 3", Moves(c, 3), snap(8), exp(10, 2))
	for _, vol := range []int{-1, 4, math.MaxInt, math.MinInt} {
		expect(t, "no volume", On(c, vol))
		expect(t, "no volume", Moves(c, vol))
	}
}

func TestSeveralLocsOnAVolume(t *testing.T) {
	c := sample(t)
	c.Chunks[1].Locs = []api.Loc{{Vol: 0, File: 1, Len: 20}, {Vol: 0, File: 1, Off: 50, Len: 20}}
	expect(t, "each once", On(c, 0)[:2], chunk(2), chunk(4))
	expect(t, "not elsewhere", Moves(c, 0)[:1], chunk(2))
}

func TestOtherCatalogs(t *testing.T) {
	fresh, _ := catalog.New(0, 1)
	invalid := sample(t)
	invalid.Seq = 0
	for _, c := range []api.Catalog{fresh, invalid, {}} {
		for v := range 4 {
			expect(t, "On", On(c, v))
			expect(t, "Moves", Moves(c, v))
			expect(t, "Lacks", Lacks(c, v))
		}
	}
}

func TestBatch(t *testing.T) {
	l := make([]api.Item, 130)
	for i := range l {
		l[i].Seq = i
	}
	for most, want := range map[int][]int{1: nil, 7: nil, 64: {64, 64, 2}, 65: {64, 64, 2}, 0: {64, 64, 2}, -1: {64, 64, 2}, math.MaxInt: {64, 64, 2}, 50: {50, 50, 30}} {
		groups := Batch(l, most)
		if most == 1 && len(groups) != 130 || most == 7 && len(groups) != 19 {
			t.Error(most, len(groups))
		}
		for i, n := range want {
			if len(groups) != len(want) || len(groups[i]) != n {
				t.Error(most, i)
			}
		}
		if !slices.Equal(slices.Concat(groups...), l) {
			t.Error(most, "other Items")
		}
		groups[0][0].Seq = -1
		if l[0].Seq != 0 {
			t.Fatal("a group shares memory with the argument")
		}
	}
	if groups := Batch(nil, 5); len(groups) != 0 {
		t.Error(groups)
	}
}

// TestManifestsAfterTheirChunks sees that in every batch of what a pool lacks the chunks come first.
func TestManifestsAfterTheirChunks(t *testing.T) {
	c := sample(t)
	for pool := range 2 {
		kind := 0
		for _, group := range Batch(Lacks(c, pool), 2) {
			for _, it := range group {
				if it.Kind < kind || it.Off != 0 || it.Len != 0 {
					t.Error(pool, it)
				}
				kind = it.Kind
			}
		}
	}
}
