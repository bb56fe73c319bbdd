package plan

import (
	"math"
	"math/rand"
	"slices"
	"testing"

	"cellarer/api"
)

// anyLoc returns a Loc with small, often equal numbers.
func anyLoc(r *rand.Rand) api.Loc {
	return api.Loc{Vol: r.Intn(4) - 1, File: r.Intn(3), Off: r.Intn(3), Len: r.Intn(2)}
}

func TestAhead(t *testing.T) {
	l := []api.Loc{{Vol: math.MinInt, File: 9}, {Vol: -1}, {File: -5}, {Off: -1}, {Len: -1}, {}, {Len: 1}, {Off: 1}, {Off: 1, Len: math.MaxInt}, {File: 1, Off: math.MinInt}, {Vol: 1}, {Vol: math.MaxInt}}
	for i, a := range l {
		for k, b := range l {
			if Ahead(a, b) != (i < k) {
				t.Error(a, b)
			}
		}
	}
}

func TestSort(t *testing.T) {
	r := rand.New(rand.NewSource(1))
	for range 200 {
		l := make([]api.Loc, r.Intn(30))
		in := map[api.Loc]bool{}
		for i := range l {
			l[i] = anyLoc(r)
			in[l[i]] = true
		}
		was := slices.Clone(l)
		got := Sort(l...)
		if len(got) != len(in) || !slices.Equal(l, was) {
			t.Fatal(got, l)
		}
		for i, x := range got {
			if !in[x] || i > 0 && !Ahead(got[i-1], x) {
				t.Fatal(got)
			}
		}
	}
	if len(Sort()) != 0 {
		t.Error("Sort of nothing")
	}
}

func TestOrder(t *testing.T) {
	r := rand.New(rand.NewSource(2))
	for range 300 {
		l := make([]api.Want, r.Intn(20))
		for i := range l {
			for range r.Intn(4) {
				l[i].Locs = append(l[i].Locs, anyLoc(r))
			}
		}
		reads, none := Order(l...)
		if len(reads)+len(none) != len(l) || !slices.IsSorted(none) {
			t.Fatal(reads, none)
		}
		for _, i := range none {
			if len(l[i].Locs) != 0 {
				t.Fatal("a Want with Locs is not read", i)
			}
		}
		seen := map[int]bool{}
		for i, x := range reads {
			w := l[x.Want]
			if seen[x.Want] || !slices.Contains(w.Locs, x.Loc) || slices.ContainsFunc(w.Locs, func(y api.Loc) bool { return Ahead(y, x.Loc) }) {
				t.Fatal(x, w)
			}
			seen[x.Want] = true
			if i > 0 && (Ahead(x.Loc, reads[i-1].Loc) || x.Loc == reads[i-1].Loc && x.Want < reads[i-1].Want) {
				t.Fatal(reads)
			}
		}
		vols := Vols(reads...)
		if !slices.IsSorted(vols) || len(slices.Compact(slices.Clone(vols))) != len(vols) {
			t.Fatal("the reads of a volume are not adjacent", vols)
		}
	}
	if reads, none := Order(); len(reads)+len(none) != 0 {
		t.Error(reads, none)
	}
}

func TestVols(t *testing.T) {
	var l []api.Read
	for _, v := range []int{3, -1, 3, 0, -1, math.MaxInt, 0} {
		l = append(l, api.Read{Loc: api.Loc{Vol: v}})
	}
	if got := Vols(l...); !slices.Equal(got, []int{3, -1, 0, math.MaxInt}) {
		t.Error(got)
	}
	if len(Vols()) != 0 {
		t.Error("volumes of nothing")
	}
}
