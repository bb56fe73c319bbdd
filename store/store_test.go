package store

import (
	"bytes"
	"math/rand"
	"testing"

	"cellarer/api"
	"cellarer/disk"
	"cellarer/power"
)

func newDisk(t *testing.T, n int) (*power.Power, *disk.Disk) {
	t.Helper()
	p := power.New()
	d, e := disk.New(p, n)
	if e != api.OK {
		t.Fatal(e)
	}
	return p, d
}

func open(t *testing.T, d *disk.Disk) *Store {
	t.Helper()
	s, e := Open(d)
	if e != api.OK {
		t.Fatal(e)
	}
	return s
}

// is sees what a store opened on the disk has.
func is(t *testing.T, d *disk.Disk, state []byte, count int) {
	t.Helper()
	s := open(t, d)
	if !bytes.Equal(s.State(), state) || s.Count() != count {
		t.Errorf("%d bytes, count %d, not %d, %d", len(s.State()), s.Count(), len(state), count)
	}
}

func TestOpenErrors(t *testing.T) {
	if s, e := Open(nil); s != nil || e != api.ErrArg {
		t.Error(e)
	}
	p, d := newDisk(t, sectors-1)
	p.Cut(nil, -1)
	if s, e := Open(d); s != nil || e != api.ErrFull {
		t.Error(e)
	}
	p, d = newDisk(t, sectors)
	is(t, d, nil, 0)
	p.Cut(nil, -1)
	if s, e := Open(d); s != nil || e != api.ErrOff {
		t.Error(e)
	}
}

func TestSave(t *testing.T) {
	p, d := newDisk(t, 300)
	s := open(t, d)
	r := rand.New(rand.NewSource(1))
	for i, n := range []int{0, 1, 255, 256, 257, api.MaxState, 3, api.MaxState} {
		b := make([]byte, n)
		r.Read(b)
		if e := s.Save(b); e != api.OK {
			t.Fatal(n, e)
		}
		want := bytes.Clone(b)
		clear(b)
		if !bytes.Equal(s.State(), want) || s.Count() != i+1 {
			t.Fatal("the store's own state", n)
		}
		clear(s.State())
		is(t, d, want, i+1)
		p.Cut(nil, -1)
		p.Start()
		is(t, d, want, i+1)
	}
	if d.Erase(); open(t, d).Count() != 0 || len(open(t, d).State()) != 0 {
		t.Error("an erased disk has a state")
	}
}

func TestSaveErrors(t *testing.T) {
	p, d := newDisk(t, 300)
	s := open(t, d)
	s.Save([]byte("a"))
	if e := s.Save(make([]byte, api.MaxState+1)); e != api.ErrLen {
		t.Error(e)
	}
	is(t, d, []byte("a"), 1)
	p.Cut(nil, -1)
	if e := s.Save(make([]byte, api.MaxState+1)); e != api.ErrOff {
		t.Error(e)
	}
	if string(s.State()) != "a" || s.Count() != 1 {
		t.Error("the state without power")
	}
}

func TestStateWithoutPower(t *testing.T) {
	p, d := newDisk(t, 300)
	s := open(t, d)
	s.Save([]byte("kept"))
	p.Cut(nil, -1)
	if string(s.State()) != "kept" || s.Count() != 1 {
		t.Error(s.State(), s.Count())
	}
}

func TestTwoStoresOnADisk(t *testing.T) {
	_, d := newDisk(t, 300)
	a, b := open(t, d), open(t, d)
	a.Save([]byte("by a"))
	if string(b.State()) != "by a" {
		t.Error(b.State())
	}
	b.Save([]byte("by b"))
	if a.Count() != 2 || string(a.State()) != "by b" {
		t.Error(a.State(), a.Count())
	}
	d.Erase()
	if len(a.State()) != 0 || a.Count() != 0 {
		t.Error("the state of an erased disk")
	}
}

func TestOnlyTheFirstSectorsAreUsed(t *testing.T) {
	_, d := newDisk(t, 310)
	s := open(t, d)
	for i := range 10 {
		s.Save(bytes.Repeat([]byte{1}, api.MaxState-i))
	}
	for i := 300; i < 310; i++ {
		if b, e := d.Read(i); e != api.OK || !bytes.Equal(b, make([]byte, api.SectorSize)) {
			t.Error(i, e)
		}
	}
}

func TestTheZeroStoreHasNoPower(t *testing.T) {
	var s Store
	if s.Save(nil) != api.ErrOff || len(s.State()) != 0 || s.Count() != 0 {
		t.Error("the zero store")
	}
}

// TestTheSameStoreAfterALoss goes on with a store whose Save was interrupted, without opening it anew.
func TestTheSameStoreAfterALoss(t *testing.T) {
	for trip := 1; trip <= 6; trip++ {
		for _, keep := range []bool{false, true} {
			p, d := newDisk(t, 300)
			s := open(t, d)
			s.Save([]byte("first"))
			p.Trip(trip, []bool{keep, keep, keep}, -1)
			e := s.Save([]byte("second"))
			if (e == api.OK) != (trip > 4) {
				t.Fatal(trip, e)
			}
			p.Cut(nil, -1)
			p.Start()
			count := s.Count()
			p.Trip(1, []bool{true, true}, 0)
			s.Save([]byte("third"))
			p.Start()
			was := open(t, d)
			if was.Count() != count || string(was.State()) != []string{"", "first", "second"}[count] {
				t.Fatal(trip, keep, was.Count(), string(was.State()))
			}
			if e := s.Save([]byte("fourth")); e != api.OK {
				t.Fatal(e)
			}
			is(t, d, []byte("fourth"), count+1)
		}
	}
}

// TestLossesAnywhere interrupts Saves at every write, with all kinds of surviving writes, again and again.
func TestLossesAnywhere(t *testing.T) {
	r := rand.New(rand.NewSource(2))
	p, d := newDisk(t, 300)
	state, count := []byte{}, 0
	s := open(t, d)
	took := 0
	for round := range 4000 {
		next := make([]byte, r.Intn(2000))
		r.Read(next)
		keep := make([]bool, r.Intn(14))
		all := r.Intn(3)
		for i := range keep {
			keep[i] = all == 1 || all == 2 && r.Intn(2) == 0
		}
		p.Trip(r.Intn(16), keep, r.Intn(16)-3)
		e := s.Save(next)
		if e == api.OK {
			state, count = next, count+1
			if !bytes.Equal(s.State(), state) || s.Count() != count {
				t.Fatal("after a Save", round)
			}
			continue
		}
		if e != api.ErrOff || !p.Off() {
			t.Fatal(e)
		}
		p.Start()
		p.Trip(0, nil, 0)
		s = open(t, d)
		if s.Count() == count+1 {
			state, count = next, count+1
			took++
		}
		if !bytes.Equal(s.State(), state) || s.Count() != count {
			t.Fatal("after a loss", round)
		}
	}
	if took == 0 || count == 0 {
		t.Error("no interrupted Save took effect")
	}
}
