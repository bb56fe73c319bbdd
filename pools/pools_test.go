package pools

import (
	"math"
	"testing"

	"cellarer/api"
	"cellarer/catalog"
)

func at(vols ...int) []api.Loc {
	var l []api.Loc
	for _, v := range vols {
		l = append(l, api.Loc{Vol: v, File: 1, Len: 20})
	}
	return l
}

// sample: pool 0 has the volumes 0 (retired), 1 and 3 (filling), 4 and 5 (scratch); pool 1 has 2 (filling) and 6 (scratch).
func sample(t *testing.T) api.Catalog {
	t.Helper()
	filling := api.Vol{State: api.VolFilling, Files: 1}
	scratch := api.Vol{State: api.VolScratch}
	c := api.Catalog{
		Seq:    9,
		Snaps:  []api.Snap{{Seq: 5, Man: api.Manifest{Name: "n", Parts: []api.Part{{Path: "p", Size: 4, Ids: [][32]byte{{1}, {2}}}}}, Locs: at(1, 2, 3)}},
		Chunks: []api.Chunk{{Id: [32]byte{1}, Locs: at(1, 2)}, {Id: [32]byte{2}, Locs: at(1, 3)}, {Id: [32]byte{3}, Locs: at(1, 2, 3)}},
		Exps:   []api.Exp{{Seq: 7, Of: 2, Locs: at(1, 3)}},
		Vols:   []api.Vol{{State: api.VolRetired}, filling, filling, filling, scratch, scratch, scratch},
	}
	c.Vols[2].Pool, c.Vols[6].Pool = 1, 1
	if catalog.Check(c) != api.OK {
		t.Fatal("the sample is not valid")
	}
	return c
}

func TestTarget(t *testing.T) {
	c := sample(t)
	rooms := []int{50, 10, 20, 30, 40, 40, 40}
	for i, x := range []struct {
		pool, need, not, want int
		e                     api.Errno
	}{
		{0, 5, -1, 1, 0}, {0, 10, -1, 1, 0}, {0, 11, -1, 3, 0}, {0, 5, 1, 3, 0}, {0, 30, -1, 3, 0}, {0, 31, -1, 4, 0}, {0, 31, 4, 5, 0}, {0, 40, 3, 4, 0},
		{0, 41, -1, 0, api.ErrScratch}, {1, 20, -1, 2, 0}, {1, 21, -1, 6, 0}, {1, 21, 6, 0, api.ErrScratch}, {2, 1, -1, 0, api.ErrScratch}, {-1, 1, -1, 0, api.ErrScratch},
		{0, math.MinInt, -1, 1, 0}, {0, math.MaxInt, -1, 0, api.ErrScratch}, {0, 5, math.MaxInt, 1, 0},
	} {
		if got, e := Target(c, x.pool, x.need, rooms, x.not); got != x.want || e != x.e {
			t.Errorf("case %d: %d, %d", i, got, e)
		}
	}
}

func TestTargetErrors(t *testing.T) {
	c := sample(t)
	for _, rooms := range [][]int{nil, make([]int, 6), make([]int, 8)} {
		if got, e := Target(c, 7, 0, rooms, -1); got != 0 || e != api.ErrArg {
			t.Error(got, e)
		}
	}
	c.Seq = 0
	if got, e := Target(c, 0, 0, make([]int, 7), -1); got != 0 || e != api.ErrArg {
		t.Error(got, e)
	}
	if got, e := Target(api.Catalog{}, 0, 0, nil, -1); got != 0 || e != api.ErrArg {
		t.Error(got, e)
	}
}

func TestLive(t *testing.T) {
	c := sample(t)
	for vol, want := range map[int]int{0: 0, 1: 4, 2: 2, 3: 3, 4: 0, -1: 0, 7: 0, math.MaxInt: 0} {
		if got := Live(c, vol); got != want {
			t.Error(vol, got)
		}
	}
	c.Seq = 0
	if Live(c, 1) != 0 {
		t.Error("an invalid catalog")
	}
}

func TestSparse(t *testing.T) {
	c := sample(t)
	for pool, want := range map[int]int{0: 3, 1: 2, 2: -1, -1: -1} {
		if got := Sparse(c, pool); got != want {
			t.Error(pool, got)
		}
	}
	c.Chunks[1].Locs = at(1)
	c.Exps[0].Locs = at(3)
	c.Snaps[0].Locs = at(3)
	c.Chunks[2].Locs = at(3)
	if got := Sparse(c, 0); got != 1 {
		t.Error("the first of several", got, Live(c, 1), Live(c, 3))
	}
	fresh, _ := catalog.New(0, 1)
	c.Seq = 0
	for _, x := range []api.Catalog{fresh, c, {}} {
		if Sparse(x, 0) != -1 || Sparse(x, 1) != -1 {
			t.Error("Sparse of nothing")
		}
	}
}

func TestWritable(t *testing.T) {
	c := sample(t)
	for pool, want := range map[int]int{0: 4, 1: 2, 2: 0, -1: 0} {
		if got := Writable(c, pool); got != want {
			t.Error(pool, got)
		}
	}
	c.Seq = 0
	if Writable(c, 0) != 0 || Writable(api.Catalog{}, 0) != 0 {
		t.Error("an invalid catalog")
	}
}

// TestTheVolumeBelongsToThePool asks for every pool, need and volume to be left out.
func TestTheVolumeBelongsToThePool(t *testing.T) {
	c := sample(t)
	rooms := []int{9, 1, 2, 3, 4, 5, 6}
	for pool := range 2 {
		if v := Sparse(c, pool); c.Vols[v].Pool != pool || c.Vols[v].State != api.VolFilling {
			t.Error(v)
		}
		for need := range 10 {
			for not := -1; not < 7; not++ {
				v, e := Target(c, pool, need, rooms, not)
				if e == api.OK && (c.Vols[v].Pool != pool || v == not || c.Vols[v].State == api.VolRetired) {
					t.Error(pool, need, not, v)
				}
			}
		}
	}
}
