package robot

import (
	"bytes"
	"math"
	"math/rand"
	"reflect"
	"testing"

	"cellarer/api"
	"cellarer/power"
)

func newRobot(t *testing.T, vols, size, drives int) (*power.Power, *Robot) {
	t.Helper()
	p := power.New()
	r, e := New(p, vols, size, drives)
	if e != api.OK {
		t.Fatal(e)
	}
	return p, r
}

func tape(size int, blocks ...string) api.Medium {
	m := api.Medium{Cap: size}
	for _, b := range blocks {
		m.Cells = append(m.Cells, api.Cell{Kind: api.CellBlock, Data: []byte(b)})
	}
	return m
}

// contains sees that the volume has these blocks.
func contains(t *testing.T, r *Robot, vol int, blocks ...string) {
	t.Helper()
	m, e := r.Medium(vol)
	if e != api.OK || len(m.Cells) != len(blocks) {
		t.Errorf("volume %d: %v, %d", vol, m, e)
		return
	}
	for i, b := range blocks {
		if string(m.Cells[i].Data) != b {
			t.Errorf("volume %d: %v", vol, m)
		}
	}
}

func TestNew(t *testing.T) {
	p := power.New()
	for _, c := range [][3]int{{0, 1, 1}, {api.MaxVols + 1, 1, 1}, {1, 0, 1}, {1, api.MaxCells + 1, 1}, {1, 1, 0}, {1, 1, api.MaxDrives + 1}, {-1, -1, -1}, {math.MaxInt, math.MaxInt, math.MaxInt}} {
		if r, e := New(p, c[0], c[1], c[2]); r != nil || e != api.ErrArg {
			t.Error(c, e)
		}
	}
	if r, e := New(nil, 1, 1, 1); r != nil || e != api.ErrArg {
		t.Error(e)
	}
	for _, c := range [][3]int{{1, 1, 1}, {api.MaxVols, api.MaxCells, api.MaxDrives}} {
		_, r := newRobot(t, c[0], c[1], c[2])
		if r.Vols() != c[0] || r.Drives() != c[2] || r.Mounts() != 0 {
			t.Error(c)
		}
		for i := -1; i <= c[2]; i++ {
			if r.Holds(i) != -1 {
				t.Error("an empty drive holds something")
			}
		}
		m, e := r.Medium(c[0] - 1)
		if m.Cap != c[1] || len(m.Cells) != 0 || e != api.OK {
			t.Error(m, e)
		}
	}
}

func TestMountErrors(t *testing.T) {
	p, r := newRobot(t, 2, 5, 1)
	for _, v := range []int{-1, 2, math.MaxInt, math.MinInt} {
		if d, e := r.Mount(v); d != nil || e != api.ErrArg {
			t.Error(v, e)
		}
		if m, e := r.Medium(v); !reflect.DeepEqual(m, api.Medium{}) || e != api.ErrArg {
			t.Error(v, e)
		}
		if e := r.Put(v, tape(5)); e != api.ErrArg {
			t.Error(v, e)
		}
	}
	p.Cut(nil, -1)
	for _, v := range []int{-1, 0} {
		if d, e := r.Mount(v); d != nil || e != api.ErrOff || r.Mounts() != 0 {
			t.Error(v, e)
		}
	}
}

func TestTheExampleOfTheChapter(t *testing.T) {
	_, r := newRobot(t, 3, 5, 2)
	for _, v := range []int{0, 1, 0, 2} {
		if _, e := r.Mount(v); e != api.OK {
			t.Fatal(e)
		}
	}
	if r.Holds(0) != 0 || r.Holds(1) != 2 || r.Mounts() != 3 {
		t.Error(r.Holds(0), r.Holds(1), r.Mounts())
	}
}

func TestMountKeepsThePosition(t *testing.T) {
	_, r := newRobot(t, 2, 5, 1)
	d, _ := r.Mount(0)
	d.Write([]byte("a"))
	d.Write([]byte("b"))
	if d, _ = r.Mount(0); d.Place() != 2 || r.Mounts() != 1 {
		t.Error(d.Place(), r.Mounts())
	}
	contains(t, r, 0, "a", "b")
	if d, _ = r.Mount(1); d.Place() != 0 || d.Medium().Cells != nil && len(d.Medium().Cells) > 0 {
		t.Error("another volume")
	}
	contains(t, r, 0, "a", "b")
	if d, _ = r.Mount(0); d.Place() != 0 || r.Mounts() != 3 {
		t.Error(d.Place(), r.Mounts())
	}
	if b, e := d.Read(); string(b) != "a" || e != api.OK {
		t.Error(b, e)
	}
}

func TestPut(t *testing.T) {
	p, r := newRobot(t, 2, 3, 1)
	d, _ := r.Mount(0)
	d.Write([]byte("old"))
	p.Cut(nil, -1)
	for v := range 2 {
		m := tape(3, "x", "y")
		if e := r.Put(v, m); e != api.OK {
			t.Fatal(e)
		}
		m.Cells[0].Data[0] = 'z'
		contains(t, r, v, "x", "y")
		got, _ := r.Medium(v)
		got.Cells[0].Data[0] = 'z'
		contains(t, r, v, "x", "y")
		for _, bad := range []api.Medium{{}, tape(2), tape(4), tape(3, "a", "b", "c", "d"), tape(3, "")} {
			if e := r.Put(v, bad); e != api.ErrArg {
				t.Error(e)
			}
		}
		contains(t, r, v, "x", "y")
	}
	if d.Place() != 0 {
		t.Error("the position after Put")
	}
	p.Start()
	if b, e := d.Read(); string(b) != "x" || e != api.OK {
		t.Error("the drive does not hold what was put", b, e)
	}
}

// TestNothingIsLostByMounting compares a library with plain lists.
func TestNothingIsLostByMounting(t *testing.T) {
	rnd := rand.New(rand.NewSource(1))
	for drives := 1; drives <= 4; drives++ {
		_, r := newRobot(t, 6, 200, drives)
		holds, when := []int{-1, -1, -1, -1}[:drives], make([]int, drives)
		written := make([][]byte, 6)
		mounts := 0
		for step := range 600 {
			v := rnd.Intn(6)
			at := -1
			for i, h := range holds {
				if h == v {
					at = i
				}
			}
			if at < 0 {
				mounts++
				at = 0
				for i := drives - 1; i >= 0; i-- {
					if holds[i] == -1 && holds[at] != -1 || (holds[i] == -1) == (holds[at] == -1) && when[i] <= when[at] {
						at = i
					}
				}
			}
			holds[at], when[at] = v, step+1
			d, e := r.Mount(v)
			if e != api.OK {
				t.Fatal(e)
			}
			if len(written[v]) < 200 {
				d.Locate(0, len(written[v]))
				d.Write([]byte{byte(step)})
				written[v] = append(written[v], byte(step))
			}
			for i, h := range holds {
				if r.Holds(i) != h {
					t.Fatal(drives, step, i, r.Holds(i), h)
				}
			}
			if r.Mounts() != mounts {
				t.Fatal(r.Mounts(), mounts)
			}
		}
		for v, want := range written {
			m, _ := r.Medium(v)
			var got []byte
			for _, c := range m.Cells {
				got = append(got, c.Data...)
			}
			if !bytes.Equal(got, want) {
				t.Error("volume", v)
			}
		}
	}
}

func TestTheZeroRobotHasNoPower(t *testing.T) {
	var r Robot
	if _, e := r.Mount(0); e != api.ErrOff || r.Vols() != 0 || r.Drives() != 0 || r.Holds(0) != -1 {
		t.Error(e)
	}
}
