package drive

import (
	"bytes"
	"math"
	"math/rand"
	"reflect"
	"testing"

	"cellarer/api"
	"cellarer/medium"
	"cellarer/power"
)

func block(s string) api.Cell { return api.Cell{Kind: api.CellBlock, Data: []byte(s)} }

// sample is the tape of the chapter's example, with room for one more cell.
func sample() api.Medium {
	mark := api.Cell{Kind: api.CellMark}
	return api.Medium{Cap: 7, Cells: []api.Cell{block("aa"), mark, block("b"), block("c"), mark, block("d")}}
}

func load(t *testing.T, m api.Medium) (*power.Power, *Drive) {
	t.Helper()
	p := power.New()
	d, e := New(p, m)
	if e != api.OK {
		t.Fatal(e)
	}
	return p, d
}

func same(a, b api.Medium) bool {
	if a.Cap != b.Cap || len(a.Cells) != len(b.Cells) {
		return false
	}
	for i, c := range a.Cells {
		d := b.Cells[i]
		if c.Kind != d.Kind || c.Bad != d.Bad || !bytes.Equal(c.Data, d.Data) {
			return false
		}
	}
	return true
}

func expect(t *testing.T, got, want api.Errno) {
	t.Helper()
	if got != want {
		t.Errorf("%d, not %d", got, want)
	}
}

func TestNew(t *testing.T) {
	p := power.New()
	for _, m := range []api.Medium{{}, {Cap: 1, Cells: []api.Cell{{}}}} {
		if d, e := New(p, m); d != nil || e != api.ErrArg {
			t.Error(e)
		}
	}
	if d, e := New(nil, sample()); d != nil || e != api.ErrArg {
		t.Error(e)
	}
	m := sample()
	_, d := load(t, m)
	m.Cells[0].Data[0] = 'z'
	got := d.Medium()
	if !same(got, sample()) || d.Place() != 0 || d.Left() != 7 {
		t.Error(got, d.Place(), d.Left())
	}
	got.Cells[0].Data[0] = 'z'
	if !same(d.Medium(), sample()) {
		t.Error("the result is the drive's own memory")
	}
}

func TestLocate(t *testing.T) {
	p, d := load(t, sample())
	for _, c := range []struct{ n, block, place int }{{0, 0, 0}, {0, 1, 1}, {1, 0, 2}, {1, 2, 4}, {2, 0, 5}, {2, 1, 6}} {
		expect(t, d.Locate(c.n, c.block), api.OK)
		if d.Place() != c.place || d.Left() != 7-c.place {
			t.Error(c, d.Place())
		}
	}
	for _, c := range []struct {
		n, block int
		e        api.Errno
	}{{-1, 9, api.ErrArg}, {9, -1, api.ErrArg}, {math.MinInt, 0, api.ErrArg}, {3, 0, api.ErrNone}, {1, 3, api.ErrNone}, {0, 2, api.ErrNone}, {2, 2, api.ErrNone}, {1, math.MaxInt, api.ErrNone}, {math.MaxInt, 0, api.ErrNone}} {
		expect(t, d.Locate(c.n, c.block), c.e)
		if d.Place() != 6 {
			t.Error("an error changes the position", c)
		}
	}
	p.Cut(nil, -1)
	expect(t, d.Locate(-1, 0), api.ErrOff)
}

func TestRead(t *testing.T) {
	m := sample()
	m.Cells[3].Bad = true
	p, d := load(t, m)
	for i, c := range []struct {
		b string
		e api.Errno
	}{{"aa", 0}, {"", api.ErrMark}, {"b", 0}, {"", api.ErrTorn}, {"", api.ErrMark}, {"d", 0}} {
		b, e := d.Read()
		if string(b) != c.b || e != c.e || d.Place() != i+1 {
			t.Error(i, string(b), e, d.Place())
		}
	}
	if _, e := d.Read(); e != api.ErrNone || d.Place() != 6 {
		t.Error(e, d.Place())
	}
	p.Cut(nil, -1)
	if b, e := d.Read(); e != api.ErrOff || len(b) != 0 || d.Place() != 6 {
		t.Error(e)
	}
}

func TestWriteMarkEnd(t *testing.T) {
	_, d := load(t, api.Medium{Cap: 3})
	b := []byte("one")
	expect(t, d.Write(b), api.OK)
	b[0] = 'z'
	expect(t, d.Mark(), api.OK)
	expect(t, d.Write([]byte("two")), api.OK)
	want := api.Medium{Cap: 3, Cells: []api.Cell{block("one"), {Kind: api.CellMark}, block("two")}}
	if !same(d.Medium(), want) || d.Place() != 3 || d.Left() != 0 {
		t.Error(d.Medium(), d.Place())
	}
	expect(t, d.Write(nil), api.ErrLen)
	expect(t, d.Write(make([]byte, api.MaxBlock+1)), api.ErrLen)
	expect(t, d.Write([]byte("x")), api.ErrFull)
	expect(t, d.Mark(), api.ErrFull)
	expect(t, d.End(), api.OK)
	if !same(d.Medium(), want) || d.Place() != 3 {
		t.Error("an error changes the tape")
	}
	d.Locate(0, 1)
	expect(t, d.End(), api.OK)
	if m := d.Medium(); len(m.Cells) != 1 || d.Place() != 1 {
		t.Error(m)
	}
	d.Locate(0, 0)
	expect(t, d.Mark(), api.OK)
	if m := d.Medium(); len(m.Cells) != 1 || m.Cells[0].Kind != api.CellMark || d.Place() != 1 {
		t.Error(m)
	}
}

func TestWithoutPower(t *testing.T) {
	p, d := load(t, api.Medium{Cap: 1, Cells: []api.Cell{block("x")}})
	d.Locate(0, 1)
	p.Cut(nil, 5)
	expect(t, d.Write(nil), api.ErrOff)
	expect(t, d.Write([]byte("x")), api.ErrOff)
	expect(t, d.Mark(), api.ErrOff)
	expect(t, d.End(), api.ErrOff)
	if m := d.Medium(); len(m.Cells) != 1 || d.Place() != 1 || d.Left() != 0 {
		t.Error(m)
	}
	p.Start()
	p.Trip(1, nil, 5)
	expect(t, d.Write([]byte("x")), api.ErrFull)
	expect(t, d.Write(nil), api.ErrLen)
	expect(t, d.Mark(), api.ErrFull)
	if p.Off() {
		t.Error("a call that does not write spent power")
	}
}

func TestLossWhileWriting(t *testing.T) {
	for torn, want := range map[int]string{-1: "", math.MinInt: "", 0: "", 2: "xy", 3: "xyz", math.MaxInt: "xyz"} {
		p, d := load(t, sample())
		d.Locate(1, 1)
		p.Trip(1, nil, torn)
		expect(t, d.Write([]byte("xyz")), api.ErrOff)
		wanted := sample()
		if torn >= 0 {
			wanted.Cells = append(wanted.Cells[:3], api.Cell{Kind: api.CellTorn, Data: []byte(want)})
		}
		if !same(d.Medium(), wanted) || d.Place() != 3 {
			t.Error(torn, d.Medium())
		}
		p.Start()
		if d.Place() != 3 {
			t.Error("the loss changes the position")
		}
		expect(t, d.Write([]byte("again")), api.OK)
	}
}

func TestLossWhileMarkingAndEnding(t *testing.T) {
	for _, torn := range []int{-1, math.MinInt, 0, 7} {
		p, d := load(t, sample())
		d.Locate(1, 0)
		p.Trip(1, nil, torn)
		expect(t, d.Mark(), api.ErrOff)
		want, _ := medium.Mark(sample(), 2)
		if torn < 0 {
			want = sample()
		}
		if !same(d.Medium(), want) || d.Place() != 2 {
			t.Error("Mark", torn, d.Medium())
		}
		p, d = load(t, sample())
		d.Locate(1, 0)
		p.Trip(1, nil, torn)
		expect(t, d.End(), api.ErrOff)
		want, _ = medium.End(sample(), 2)
		if torn < 0 {
			want = sample()
		}
		if !same(d.Medium(), want) || d.Place() != 2 {
			t.Error("End", torn, d.Medium())
		}
	}
}

// TestDriveIsAMediumWithAPosition compares a drive with the functions of package medium.
func TestDriveIsAMediumWithAPosition(t *testing.T) {
	r := rand.New(rand.NewSource(1))
	m := api.Medium{Cap: 9}
	at := 0
	_, d := load(t, m)
	for step := range 5000 {
		switch r.Intn(6) {
		case 0, 1:
			b := make([]byte, r.Intn(3))
			next, e := medium.Write(m, at, b)
			expect(t, d.Write(b), e)
			if e == api.OK {
				m, at = next, at+1
			}
		case 2:
			next, e := medium.Mark(m, at)
			expect(t, d.Mark(), e)
			if e == api.OK {
				m, at = next, at+1
			}
		case 3:
			want, e := medium.Read(m, at)
			got, f := d.Read()
			if e != f || !bytes.Equal(got, want) {
				t.Fatal(step, e, f)
			}
			if e != api.ErrNone {
				at++
			}
		case 4:
			n := r.Intn(4)
			if p, e := medium.File(m, n); e == api.OK {
				expect(t, d.Locate(n, 0), api.OK)
				at = p
			}
		case 5:
			if r.Intn(6) == 0 {
				m, _ = medium.End(m, at)
				expect(t, d.End(), api.OK)
			}
		}
		if !same(d.Medium(), m) || d.Place() != at || d.Left() != 9-at {
			t.Fatal(step, at, d.Place())
		}
	}
}

func TestTheZeroDriveHasNoPower(t *testing.T) {
	var d Drive
	expect(t, d.Locate(0, 0), api.ErrOff)
	expect(t, d.Write([]byte("x")), api.ErrOff)
	expect(t, d.Mark(), api.ErrOff)
	expect(t, d.End(), api.ErrOff)
	if !reflect.DeepEqual(d.Medium(), api.Medium{}) || d.Left() != 0 {
		t.Error("the zero drive")
	}
}
