package wal

import (
	"bytes"
	"math"
	"math/rand"
	"slices"
	"testing"

	"cellarer/api"
	"cellarer/disk"
	"cellarer/power"
	"cellarer/store"
)

func newDisk(t *testing.T, n int) (*power.Power, *disk.Disk) {
	t.Helper()
	p := power.New()
	d, e := disk.New(p, n)
	if e != api.OK {
		t.Fatal(e)
	}
	return p, d
}

func open(t *testing.T, d *disk.Disk) (*Log, []byte, [][]byte) {
	t.Helper()
	l, state, changes, e := Open(d)
	if e != api.OK {
		t.Fatal(e)
	}
	return l, state, changes
}

// is sees what a log opened on the disk has.
func is(t *testing.T, d *disk.Disk, state string, want ...string) {
	t.Helper()
	_, got, changes := open(t, d)
	if string(got) != state || !equal(changes, want) {
		t.Errorf("%q with %q, not %q with %q", got, changes, state, want)
	}
}

func equal(changes [][]byte, want []string) bool {
	return slices.EqualFunc(changes, want, func(a []byte, b string) bool { return string(a) == b })
}

func TestOpenErrors(t *testing.T) {
	if l, _, _, e := Open(nil); l != nil || e != api.ErrArg {
		t.Error(e)
	}
	_, d := newDisk(t, 299)
	if l, _, _, e := Open(d); l != nil || e != api.ErrFull {
		t.Error(e)
	}
	p, d := newDisk(t, 300)
	p.Cut(nil, -1)
	if l, _, _, e := Open(d); l != nil || e != api.ErrOff {
		t.Error(e)
	}
}

func TestSaveAndAppend(t *testing.T) {
	p, d := newDisk(t, 330)
	l, state, changes := open(t, d)
	if len(state)+len(changes) != 0 {
		t.Error("a new disk has something")
	}
	if e := l.Append([]byte("x")); e != api.ErrState {
		t.Error("Append without a Save", e)
	}
	l.Save([]byte("state"))
	is(t, d, "state")
	long := string(bytes.Repeat([]byte("long"), 200))
	for _, s := range []string{"a", "", long} {
		if e := l.Append([]byte(s)); e != api.OK {
			t.Fatal(e)
		}
	}
	p.Cut(nil, -1)
	if e := l.Append(nil); e != api.ErrOff {
		t.Error(e)
	}
	if e := l.Save(nil); e != api.ErrOff {
		t.Error(e)
	}
	p.Start()
	is(t, d, "state", "a", "", long)
	is(t, d, "state", "a", "", long)
	l, _, _ = open(t, d)
	if e := l.Append([]byte("x")); e != api.ErrState {
		t.Error("Append in a new life without a Save", e)
	}
	if e := l.Save(make([]byte, api.MaxState+1)); e != api.ErrLen {
		t.Error(e)
	}
	if e := l.Append([]byte("x")); e != api.ErrState {
		t.Error("a Save with an error counts", e)
	}
	l.Save([]byte("next"))
	is(t, d, "next")
	l.Append([]byte("b"))
	is(t, d, "next", "b")
	d.Erase()
	is(t, d, "")
	if e := l.Append([]byte("x")); l.Room(0) || e != api.ErrFull {
		t.Error("Append on an erased disk", e)
	}
	is(t, d, "")
	l.Save([]byte("third"))
	l.Append([]byte("c"))
	is(t, d, "third", "c")
}

func TestRoomAfterASave(t *testing.T) {
	for _, s := range []int{0, 1, 2, 3, 10, 300} {
		_, d := newDisk(t, 300+s)
		l, _, _ := open(t, d)
		most := 240*s - 240
		for _, n := range []int{0, 1, 239, 240, 241, most - 1, most} {
			if n < 0 || n > most {
				continue
			}
			if l.Save([]byte("s")); !l.Room(n) {
				t.Fatal(s, n)
			}
			change := string(bytes.Repeat([]byte{kindHead}, n))
			if e := l.Append([]byte(change)); e != api.OK {
				t.Fatal(s, n, e)
			}
			is(t, d, "s", change)
		}
		for _, n := range []int{-1, math.MinInt, math.MaxInt, math.MaxInt - 13, s*api.SectorSize + 1} {
			if l.Room(n) {
				t.Error(s, n)
			}
		}
	}
}

func TestAppendUntilFull(t *testing.T) {
	_, d := newDisk(t, 310)
	l, _, _ := open(t, d)
	l.Save(nil)
	var want []string
	for n := 0; ; n += 50 {
		change := string(bytes.Repeat([]byte{byte(n)}, n))
		room := l.Room(n)
		e := l.Append([]byte(change))
		if room != (e == api.OK) || !room && e != api.ErrFull {
			t.Fatal(n, room, e)
		}
		if !room {
			break
		}
		want = append(want, change)
	}
	is(t, d, "", want...)
	if len(want) < 5 {
		t.Error(len(want))
	}
	l.Save([]byte("again"))
	if !l.Room(240 * 9) {
		t.Error("no room after a Save")
	}
}

func TestRoomWithoutPower(t *testing.T) {
	p, d := newDisk(t, 302)
	l, _, _ := open(t, d)
	l.Save(nil)
	l.Append([]byte("a"))
	p.Cut(nil, -1)
	if !l.Room(240) || l.Room(400) {
		t.Error("another room without power")
	}
	p.Start()
	l.Save(nil)
	p.Cut(nil, -1)
	if !l.Room(400) {
		t.Error("another room without power after a Save")
	}
}

// TestRoomAfterALoss goes on with a log whose Append was interrupted but has taken effect.
func TestRoomAfterALoss(t *testing.T) {
	p, d := newDisk(t, 302)
	l, _, _ := open(t, d)
	l.Save(nil)
	p.Trip(2, []bool{true}, -1)
	if e := l.Append([]byte("a")); e != api.ErrOff {
		t.Error(e)
	}
	p.Start()
	if l.Room(400) || !l.Room(240) {
		t.Error("the room does not know of the change")
	}
	if e := l.Append([]byte("b")); e != api.OK {
		t.Error(e)
	}
	is(t, d, "", "a", "b")
}

// TestBytesThatLookLikeAHead appends what the sectors of a later state's changes look like.
func TestBytesThatLookLikeAHead(t *testing.T) {
	_, d := newDisk(t, 310)
	l, _, _ := open(t, d)
	l.Save([]byte("first"))
	var forged []byte
	for range 4 {
		sector := make([]byte, api.SectorSize)
		copy(sector, headOf(2, 3))
		forged = append(forged, sector...)
	}
	for shift := range 20 {
		l.Save([]byte("first"))
		l.Append(append(make([]byte, 240+shift), forged...))
	}
	is(t, d, "first", string(append(make([]byte, 259), forged...)))
	count := l.s.Count()
	copy(forged, headOf(count+1, 3))
	l.Save(nil)
	l.Append(append(make([]byte, 240), forged...))
	l.Save([]byte("second"))
	l.Append([]byte("x"))
	is(t, d, "second", "x")
}

func TestOthersOnTheDisk(t *testing.T) {
	_, d := newDisk(t, 320)
	for i := 300; i < 320; i++ {
		d.Write(i, bytes.Repeat([]byte{kindHead}, api.SectorSize))
	}
	d.Sync()
	is(t, d, "")
	s, _ := store.Open(d)
	s.Save([]byte("stored"))
	is(t, d, "stored")
	l, _, _ := open(t, d)
	l.Save([]byte("one"))
	l.Append([]byte("a"))
	other, _, _ := open(t, d)
	other.Save([]byte("two"))
	other.Append([]byte("b"))
	if e := l.Append([]byte("c")); e != api.OK {
		t.Error(e)
	}
	is(t, d, "two", "b", "c")
	s.Save([]byte("three"))
	is(t, d, "three")
}

func TestResultsAndArgumentsAreApart(t *testing.T) {
	_, d := newDisk(t, 320)
	l, _, _ := open(t, d)
	state, change := []byte("state"), []byte("change")
	l.Save(state)
	l.Append(change)
	clear(state)
	clear(change)
	_, s, c := open(t, d)
	clear(s)
	clear(c[0])
	is(t, d, "state", "change")
}

func TestTheZeroLogHasNoPower(t *testing.T) {
	var l Log
	if l.Save(nil) != api.ErrOff || l.Append(nil) != api.ErrOff || l.Room(0) {
		t.Error("the zero log")
	}
}

// loss schedules a loss somewhere in the next call, with any kind of surviving writes.
func loss(r *rand.Rand, p *power.Power) {
	keep := make([]bool, r.Intn(10))
	all := r.Intn(3)
	for i := range keep {
		keep[i] = all == 1 || all == 2 && r.Intn(2) == 0
	}
	p.Trip(r.Intn(14), keep, r.Intn(12)-4)
}

// TestLossesAnywhere compares a log with a plain list, through losses at every write. In some rounds the same log goes
// on after the loss.
func TestLossesAnywhere(t *testing.T) {
	r := rand.New(rand.NewSource(3))
	p, d := newDisk(t, 330)
	l, _, _ := open(t, d)
	state, changes := "", []string{}
	took, lost := 0, 0
	for round := range 6000 {
		next := string(bytes.Repeat([]byte{byte(round)}, r.Intn(1200)))
		save := r.Intn(8) == 0
		loss(r, p)
		var e api.Errno
		if save {
			e = l.Save([]byte(next))
		} else {
			e = l.Append([]byte(next))
		}
		p.Trip(0, nil, 0)
		wasOff := p.Off()
		p.Start()
		again, s, c := open(t, d)
		newState, newChanges := state, append(slices.Clone(changes), next)
		if save {
			newState, newChanges = next, nil
		}
		after := string(s) == newState && equal(c, newChanges)
		before := string(s) == state && equal(c, changes)
		switch {
		case e == api.OK && !after, e != api.OK && e != api.ErrOff && !before, !before && !after, e == api.ErrOff != wasOff:
			t.Fatal(round, save, e, before, after, len(changes), len(c))
		case e == api.ErrOff && after:
			took++
		case e == api.ErrOff:
			lost++
		}
		if after {
			state, changes = newState, newChanges
		}
		if e == api.ErrOff && r.Intn(3) > 0 || r.Intn(20) == 0 {
			l = again
		}
	}
	if took < 100 || lost < 100 {
		t.Error(took, lost)
	}
}
