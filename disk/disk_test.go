package disk

import (
	"bytes"
	"math"
	"math/rand"
	"testing"

	"cellarer/api"
	"cellarer/power"
)

func filled(c byte) []byte { return bytes.Repeat([]byte{c}, api.SectorSize) }

func newDisk(t *testing.T, sectors int) (*power.Power, *Disk) {
	t.Helper()
	p := power.New()
	d, e := New(p, sectors)
	if e != api.OK {
		t.Fatal(e)
	}
	return p, d
}

// holds sees that sector i contains c only.
func holds(t *testing.T, d *Disk, i int, c byte) {
	t.Helper()
	if b, e := d.Read(i); e != api.OK || !bytes.Equal(b, filled(c)) {
		t.Errorf("sector %d: %v, %d, not %d", i, b[:min(1, len(b))], e, c)
	}
}

func expect(t *testing.T, got, want api.Errno) {
	t.Helper()
	if got != want {
		t.Errorf("%d, not %d", got, want)
	}
}

func TestNew(t *testing.T) {
	p := power.New()
	for _, n := range []int{0, -1, api.MaxSectors + 1, math.MaxInt, math.MinInt} {
		if d, e := New(p, n); d != nil || e != api.ErrArg {
			t.Error(n, e)
		}
	}
	if d, e := New(nil, 1); d != nil || e != api.ErrArg {
		t.Error(e)
	}
	for _, n := range []int{1, api.MaxSectors} {
		d, e := New(p, n)
		if e != api.OK || d.Sectors() != n {
			t.Fatal(n, e)
		}
		holds(t, d, n-1, 0)
	}
}

func TestErrorsInOrder(t *testing.T) {
	p, d := newDisk(t, 2)
	for _, i := range []int{-1, 2, math.MaxInt, math.MinInt} {
		_, e := d.Read(i)
		expect(t, e, api.ErrArg)
		expect(t, d.Write(i, nil), api.ErrArg)
	}
	expect(t, d.Write(0, filled(1)[1:]), api.ErrLen)
	expect(t, d.Write(0, append(filled(1), 1)), api.ErrLen)
	p.Cut(nil, -1)
	_, e := d.Read(-1)
	expect(t, e, api.ErrOff)
	expect(t, d.Write(-1, nil), api.ErrOff)
	expect(t, d.Sync(), api.ErrOff)
	expect(t, d.Erase(), api.ErrOff)
	if d.Sectors() != 2 {
		t.Error("sectors without power")
	}
}

func TestRefusedCallsSpendNothing(t *testing.T) {
	p, d := newDisk(t, 2)
	p.Trip(1, nil, -1)
	d.Write(2, filled(1))
	d.Write(0, nil)
	d.Read(0)
	d.Erase()
	if p.Off() {
		t.Error("a call that does not write spent power")
	}
	expect(t, d.Sync(), api.ErrOff)
	if !p.Off() {
		t.Error("Sync spends no power")
	}
}

func TestWhatIsWrittenIsRead(t *testing.T) {
	_, d := newDisk(t, 3)
	b := filled(7)
	expect(t, d.Write(1, b), api.OK)
	b[0] = 9
	holds(t, d, 1, 7)
	got, _ := d.Read(1)
	got[0] = 9
	holds(t, d, 1, 7)
	expect(t, d.Write(1, filled(8)), api.OK)
	holds(t, d, 1, 8)
	holds(t, d, 0, 0)
	expect(t, d.Erase(), api.OK)
	holds(t, d, 1, 0)
}

func TestExampleOfTheChapter(t *testing.T) {
	p, d := newDisk(t, 3)
	d.Write(0, filled(1))
	d.Write(1, filled(2))
	d.Sync()
	for i, at := range []int{0, 1, 0, 2} {
		d.Write(at, filled(byte(10+i)))
	}
	p.Cut([]bool{false, true, true}, -1)
	p.Start()
	holds(t, d, 0, 12)
	holds(t, d, 1, 11)
	holds(t, d, 2, 0)
}

func TestEraseIsDurable(t *testing.T) {
	p, d := newDisk(t, 2)
	d.Write(0, filled(1))
	d.Sync()
	d.Write(1, filled(2))
	expect(t, d.Erase(), api.OK)
	d.Write(0, filled(3))
	p.Cut([]bool{false, true}, -1)
	p.Start()
	holds(t, d, 0, 0)
	holds(t, d, 1, 0)
	d.Write(1, filled(4))
	d.Erase()
	p.Cut([]bool{true}, -1)
	p.Start()
	holds(t, d, 1, 0)
}

func TestTornSectors(t *testing.T) {
	p, d := newDisk(t, 2)
	d.Write(0, filled(1))
	d.Sync()
	d.Write(0, filled(2))
	p.Cut([]bool{true}, 0)
	p.Start()
	_, e := d.Read(0)
	expect(t, e, api.ErrTorn)
	d.Write(0, filled(3))
	holds(t, d, 0, 3)
	p.Cut(nil, -1)
	p.Start()
	_, e = d.Read(0)
	expect(t, e, api.ErrTorn)
	d.Write(0, filled(4))
	d.Sync()
	p.Cut(nil, -1)
	p.Start()
	holds(t, d, 0, 4)
	d.Write(0, filled(5))
	d.Write(0, filled(6))
	p.Cut([]bool{false, true}, 0)
	p.Start()
	holds(t, d, 0, 6)
	d.Write(1, filled(1))
	p.Cut(nil, 0)
	p.Start()
	expect(t, d.Erase(), api.OK)
	holds(t, d, 1, 0)
}

func TestTheInterruptedWriteCounts(t *testing.T) {
	p, d := newDisk(t, 2)
	p.Trip(2, []bool{false, true}, -1)
	expect(t, d.Write(0, filled(1)), api.OK)
	expect(t, d.Write(1, filled(2)), api.ErrOff)
	p.Start()
	holds(t, d, 0, 0)
	holds(t, d, 1, 2)
	p.Trip(2, []bool{true}, -1)
	expect(t, d.Write(0, filled(3)), api.OK)
	expect(t, d.Sync(), api.ErrOff)
	p.Start()
	holds(t, d, 0, 3)
}

func TestTheLastLossDecides(t *testing.T) {
	p, d := newDisk(t, 1)
	d.Write(0, filled(1))
	p.Cut(nil, -1)
	p.Start()
	p.Cut([]bool{true}, -1)
	d.Sectors()
	p.Start()
	holds(t, d, 0, 1)
	p.Cut(nil, -1)
	p.Start()
	holds(t, d, 0, 1)
}

func TestAnyCallNoticesTheLoss(t *testing.T) {
	p, d := newDisk(t, 1)
	d.Write(0, filled(1))
	p.Cut(nil, -1)
	p.Start()
	d.Sectors()
	p.Cut([]bool{true}, 0)
	p.Start()
	holds(t, d, 0, 0)
}

func TestTheZeroDiskHasNoPower(t *testing.T) {
	var d Disk
	_, e := d.Read(0)
	expect(t, e, api.ErrOff)
	expect(t, d.Write(0, nil), api.ErrOff)
	if d.Sectors() != 0 {
		t.Error("sectors")
	}
}

// TestDurableRemains compares a disk with plain lists, through many losses.
func TestDurableRemains(t *testing.T) {
	r := rand.New(rand.NewSource(1))
	const size = 4
	p, d := newDisk(t, size)
	type cell struct {
		c    byte
		torn bool
	}
	type pending struct {
		at int
		c  byte
	}
	var safe, now [size]cell
	var open []pending
	for step := range 5000 {
		switch r.Intn(8) {
		case 0:
			d.Sync()
			safe, open = now, nil
		case 1:
			keep, torn := make([]bool, r.Intn(6)), r.Intn(6)-1
			for i := range keep {
				keep[i] = r.Intn(2) == 0
			}
			p.Cut(keep, torn)
			p.Start()
			for k, w := range open {
				if k == torn {
					safe[w.at].torn = true
				} else if k < len(keep) && keep[k] {
					safe[w.at] = cell{c: w.c}
				}
			}
			now, open = safe, nil
		default:
			w := pending{r.Intn(size), byte(step)}
			d.Write(w.at, filled(w.c))
			open = append(open, w)
			now[w.at] = cell{c: w.c}
		}
		for i, c := range now {
			b, e := d.Read(i)
			if c.torn != (e == api.ErrTorn) || !c.torn && !bytes.Equal(b, filled(c.c)) {
				t.Fatal(step, i, e)
			}
		}
	}
}
