package mounts

import (
	"math"
	"math/rand"
	"slices"
	"testing"

	"cellarer/api"
)

func reads(vols ...int) []api.Read {
	var l []api.Read
	for i, v := range vols {
		l = append(l, api.Read{Want: i, Loc: api.Loc{Vol: v, File: i + 1, Off: 3, Len: 13}})
	}
	return l
}

func mountMove(drive, vol int) api.Move {
	return api.Move{Kind: api.MoveMount, Drive: drive, Vol: vol}
}

func readMove(drive int, r api.Read) api.Move {
	return api.Move{Kind: api.MoveRead, Drive: drive, Vol: r.Loc.Vol, Loc: r.Loc}
}

func expect(t *testing.T, holds []int, l []api.Read, want ...api.Move) {
	t.Helper()
	was := slices.Clone(holds)
	got, e := Moves(holds, l)
	if e != api.OK || !slices.Equal(got, want) {
		t.Errorf("%v, %d, not %v", got, e, want)
	}
	if !slices.Equal(holds, was) {
		t.Error("the argument was changed")
	}
}

func TestMoves(t *testing.T) {
	l := reads(3, 4, 3)
	expect(t, []int{-1}, l, mountMove(0, 3), readMove(0, l[0]), readMove(0, l[2]), mountMove(0, 4), readMove(0, l[1]))
	expect(t, []int{7, -1}, l, mountMove(1, 3), readMove(1, l[0]), readMove(1, l[2]), mountMove(0, 4), readMove(0, l[1]))
	expect(t, []int{7, 4}, l, readMove(1, l[1]), mountMove(0, 3), readMove(0, l[0]), readMove(0, l[2]))
	expect(t, []int{4, 3}, l, readMove(0, l[1]), readMove(1, l[0]), readMove(1, l[2]))
	m := reads(1, 2, 3, 4)
	expect(t, []int{8, 9, math.MinInt}, m, mountMove(2, 1), readMove(2, m[0]), mountMove(0, 2), readMove(0, m[1]), mountMove(1, 3), readMove(1, m[2]), mountMove(2, 4), readMove(2, m[3]))
	expect(t, []int{0, -1}, m[:1], mountMove(1, 1), readMove(1, m[0]))
	z := reads(0, 1)
	expect(t, []int{-1}, z, mountMove(0, 0), readMove(0, z[0]), mountMove(0, 1), readMove(0, z[1]))
	expect(t, []int{0}, nil)
}

func TestErrorsInOrder(t *testing.T) {
	many := make([]api.Read, api.MaxBytes+1)
	many[5].Loc.Vol = -1
	for i, c := range []struct {
		holds []int
		l     []api.Read
		e     api.Errno
	}{
		{nil, many, api.ErrLen}, {make([]int, api.MaxDrives+1), many, api.ErrLen}, {[]int{1, -1, 1}, many, api.ErrArg}, {[]int{0, 0}, nil, api.ErrArg},
		{[]int{-1, -1}, many, api.ErrLen}, {[]int{-1}, reads(1, -1), api.ErrArg}, {[]int{-1}, reads(math.MinInt), api.ErrArg}, {[]int{-1, -1, -2, -2}, reads(math.MaxInt), api.OK},
	} {
		if m, e := Moves(c.holds, c.l); e != c.e || e != api.OK && len(m) != 0 {
			t.Error(i, e)
		}
	}
	l := slices.Repeat(reads(5, 6), api.MaxBytes/2)
	if m, e := Moves([]int{-1}, l); e != api.OK || len(m) != api.MaxBytes+2 {
		t.Error(len(m), e)
	}
}

func TestManyVolumes(t *testing.T) {
	l := make([]api.Read, api.MaxBytes)
	for i := range l {
		l[i].Loc.Vol = len(l) - i
	}
	m, e := Moves([]int{-1, 5, 6, 7}, l)
	if e != api.OK || len(m) != Bound(l)-3 {
		t.Error(len(m), e)
	}
}

func TestBound(t *testing.T) {
	if Bound(nil) != 0 || Bound(reads(1)) != 2 || Bound(reads(1, 2, 1, -1)) != 7 {
		t.Error("Bound")
	}
}

// TestEveryRead carries the moves out.
func TestEveryRead(t *testing.T) {
	r := rand.New(rand.NewSource(1))
	for range 500 {
		holds := make([]int, 1+r.Intn(api.MaxDrives))
		for i := range holds {
			holds[i] = i*3 + r.Intn(3) - 1
		}
		vols := make([]int, r.Intn(30))
		for i := range vols {
			vols[i] = r.Intn(9)
		}
		l := reads(vols...)
		moves, e := Moves(holds, l)
		if e != api.OK || len(moves) > Bound(l) {
			t.Fatal(e, len(moves), Bound(l))
		}
		now, mounted, got := slices.Clone(holds), map[int]bool{}, map[int][]api.Loc{}
		for _, m := range moves {
			if m.Kind == api.MoveMount {
				if mounted[m.Vol] || slices.Contains(now, m.Vol) {
					t.Fatal("mounted twice", m)
				}
				mounted[m.Vol] = true
				now[m.Drive] = m.Vol
				continue
			}
			if now[m.Drive] != m.Vol || m.Loc.Vol != m.Vol {
				t.Fatal("read from another drive", m)
			}
			got[m.Vol] = append(got[m.Vol], m.Loc)
		}
		want := map[int][]api.Loc{}
		for _, x := range l {
			want[x.Loc.Vol] = append(want[x.Loc.Vol], x.Loc)
		}
		for v := range 9 {
			if !slices.Equal(got[v], want[v]) {
				t.Fatal("volume", v)
			}
		}
	}
}
