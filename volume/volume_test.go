package volume

import (
	"bytes"
	"math"
	"math/rand"
	"slices"
	"testing"

	"cellarer/aggr"
	"cellarer/api"
	"cellarer/drive"
	"cellarer/frame"
	"cellarer/medium"
	"cellarer/power"
)

func rec(kind, seq int, data string) api.Record {
	return api.Record{Kind: kind, Seq: seq, Data: []byte(data)}
}

// load returns a volume on a tape, formatted if it has no cells.
func load(t *testing.T, size int, m api.Medium) (*power.Power, *drive.Drive, *Volume) {
	t.Helper()
	p := power.New()
	d, e := drive.New(p, m)
	if e != api.OK {
		t.Fatal(e)
	}
	v, e := New(d, size)
	if e != api.OK {
		t.Fatal(e)
	}
	if len(m.Cells) == 0 {
		expect(t, v.Format(api.Label{Vol: 1}), api.OK)
	}
	return p, d, v
}

func expect(t *testing.T, got, want api.Errno) {
	t.Helper()
	if got != want {
		t.Errorf("%d, not %d", got, want)
	}
}

func appended(t *testing.T, v *Volume, files int, l ...api.Record) []int {
	t.Helper()
	offs, e := v.Append(files, l...)
	expect(t, e, api.OK)
	return offs
}

func TestNew(t *testing.T) {
	d, _ := drive.New(power.New(), api.Medium{Cap: 5})
	for _, n := range []int{31, api.MaxBlock + 1, 0, -1, math.MaxInt} {
		if v, e := New(d, n); v != nil || e != api.ErrArg {
			t.Error(n, e)
		}
	}
	if v, e := New(nil, 32); v != nil || e != api.ErrArg {
		t.Error(e)
	}
	for _, n := range []int{32, api.MaxBlock} {
		if v, e := New(d, n); v == nil || e != api.OK {
			t.Error(n, e)
		}
	}
}

func TestFormatAndLabel(t *testing.T) {
	_, d, v := load(t, 32, api.Medium{Cap: 30})
	if v.Files() != 0 || v.Room(0) != 28 || v.Room(1) != -1 {
		t.Error(v.Files(), v.Room(0))
	}
	appended(t, v, 0, rec(api.RecChunk, 0, "x"))
	l := api.Label{Vol: 7, Pool: 1, Epoch: 9}
	expect(t, v.Format(l), api.OK)
	if got, e := v.Label(); got != l || e != api.OK || v.Files() != 0 || len(d.Medium().Cells) != 2 {
		t.Error(got, e)
	}
	expect(t, v.Format(api.Label{Vol: -1}), api.ErrArg)
	if got, e := v.Label(); got != l || e != api.OK {
		t.Error("an error changes the label", got, e)
	}
	_, _, v = load(t, 32, api.Medium{Cap: 1, Cells: []api.Cell{{Kind: api.CellMark}}})
	expect(t, v.Format(l), api.ErrFull)
	if _, e := v.Label(); e != api.ErrLabel {
		t.Error("no mark follows", e)
	}
}

func TestLabelErrors(t *testing.T) {
	_, d, _ := load(t, 32, api.Medium{Cap: 4})
	good := d.Medium()
	spoilt, _ := medium.Spoil(good, 0)
	flipped, _ := medium.Flip(good, 0, 3)
	ended, _ := medium.End(good, 1)
	followed, _ := medium.Write(good, 1, []byte("x"))
	marked, _ := medium.Mark(good, 0)
	badMark, _ := medium.Spoil(good, 1)
	for i, c := range []struct {
		m api.Medium
		e api.Errno
	}{{good, api.OK}, {badMark, api.OK}, {spoilt, api.ErrLabel}, {flipped, api.ErrLabel}, {ended, api.ErrLabel}, {followed, api.ErrLabel}, {marked, api.ErrLabel}} {
		_, _, v := load(t, 32, c.m)
		if l, e := v.Label(); e != c.e || e != api.OK && l != (api.Label{}) {
			t.Errorf("case %d: %v, %d", i, l, e)
		}
	}
	empty, _ := drive.New(power.New(), api.Medium{Cap: 4})
	v, _ := New(empty, 32)
	if _, e := v.Label(); e != api.ErrLabel || v.Files() != 0 || v.Room(0) != -1 {
		t.Error(e)
	}
}

func TestRoom(t *testing.T) {
	_, _, v := load(t, 32, api.Medium{Cap: 10})
	appended(t, v, 0, rec(api.RecChunk, 0, "x"))
	for files, want := range map[int]int{0: 8, 1: 5, 2: -1, -1: -1, math.MaxInt: -1, math.MinInt: -1} {
		if got := v.Room(files); got != want {
			t.Error(files, got, want)
		}
	}
	if v.Files() != 1 {
		t.Error(v.Files())
	}
}

func TestAppend(t *testing.T) {
	_, d, v := load(t, 32, api.Medium{Cap: 10})
	a, b := rec(api.RecChunk, 0, "first"), rec(api.RecManifest, 4, "second one")
	offs := appended(t, v, 0, a, b)
	if !slices.Equal(offs, []int{13, 31}) {
		t.Error(offs)
	}
	blocks, _, _ := aggr.Pack(32, a, b)
	m := d.Medium()
	for i, want := range blocks {
		if !bytes.Equal(m.Cells[2+i].Data, want) {
			t.Error("block", i)
		}
	}
	if len(m.Cells) != 3+len(blocks) || m.Cells[2+len(blocks)].Kind != api.CellMark || v.Files() != 1 {
		t.Error(m)
	}
	appended(t, v, 1, b)
	appended(t, v, 0, b)
	if v.Files() != 1 {
		t.Error("what was behind is there", v.Files())
	}
	if l, _, whole, e := v.Scan(1); len(l) != 1 || !whole || e != api.OK {
		t.Error(l, whole, e)
	}
}

func TestAppendErrors(t *testing.T) {
	p, d, v := load(t, 32, api.Medium{Cap: 5})
	was := d.Medium()
	for _, c := range []struct {
		files int
		l     []api.Record
		e     api.Errno
	}{
		{-1, nil, api.ErrLen}, {0, []api.Record{{}}, api.ErrArg}, {-1, []api.Record{rec(api.RecHead, 1, "")}, api.ErrArg},
		{-1, []api.Record{rec(api.RecChunk, 0, "")}, api.ErrNone}, {1, []api.Record{rec(api.RecChunk, 0, "")}, api.ErrNone}, {math.MaxInt, []api.Record{rec(api.RecChunk, 0, "")}, api.ErrNone},
		{0, []api.Record{rec(api.RecChunk, 0, string(make([]byte, 26)))}, api.ErrFull},
	} {
		offs, e := v.Append(c.files, c.l...)
		if e != c.e || len(offs) != 0 {
			t.Error(c, e)
		}
	}
	if len(d.Medium().Cells) != len(was.Cells) {
		t.Error("an error changes the tape")
	}
	p.Trip(2, nil, 4)
	if offs, e := v.Append(0, rec(api.RecChunk, 0, "123456789012345678901234")); e != api.ErrOff || len(offs) != 0 {
		t.Error(offs, e)
	}
	m := d.Medium()
	if len(m.Cells) != 4 || m.Cells[3].Kind != api.CellTorn || len(m.Cells[3].Data) != 4 {
		t.Error(m)
	}
	p.Start()
	if offs := appended(t, v, 0, rec(api.RecChunk, 0, string(make([]byte, 25)))); len(offs) != 1 || v.Room(1) != 0 {
		t.Error(offs, v.Room(1))
	}
}

func TestAFullTape(t *testing.T) {
	_, d, v := load(t, 64, api.Medium{Cap: 4})
	appended(t, v, 0, rec(api.RecChunk, 0, "x"))
	if v.Room(1) != 0 {
		t.Error(v.Room(1))
	}
	_, e := v.Append(1, rec(api.RecChunk, 0, "x"))
	expect(t, e, api.ErrFull)
	expect(t, v.Trim(1), api.OK)
	if len(d.Medium().Cells) != 4 {
		t.Error(d.Medium())
	}
}

func TestReadOfNoAggregate(t *testing.T) {
	_, _, v := load(t, 64, api.Medium{Cap: 20})
	appended(t, v, 0, rec(api.RecChunk, 0, "x"))
	for _, file := range []int{2, 3, math.MaxInt} {
		v.Label()
		if b, e := v.Read(file, 0, 1); e != api.ErrNone || len(b) != 0 {
			t.Error(file, b, e)
		}
	}
}

func TestErrorsKeepThePosition(t *testing.T) {
	_, d, v := load(t, 32, api.Medium{Cap: 30})
	appended(t, v, 0, rec(api.RecChunk, 0, string(make([]byte, 60))))
	appended(t, v, 1, rec(api.RecChunk, 0, "x"))
	m, _ := medium.Spoil(d.Medium(), 3)
	m, _ = medium.Spoil(m, 0)
	_, d, v = load(t, 32, m)
	for file := range 3 {
		for block := range 2 {
			d.Locate(file, block)
			place := d.Place()
			_, e := v.Label()
			expect(t, e, api.ErrLabel)
			_, e = v.Read(1, 0, 40)
			expect(t, e, api.ErrTorn)
			_, e = v.Read(2, 0, 90)
			expect(t, e, api.ErrNone)
			_, e = v.Read(7, 0, 1)
			expect(t, e, api.ErrNone)
			if d.Place() != place {
				t.Error(file, block, d.Place(), place)
			}
		}
	}
}

func TestTrim(t *testing.T) {
	p, d, v := load(t, 32, api.Medium{Cap: 20})
	for i := range 3 {
		appended(t, v, i, rec(api.RecChunk, 0, "x"))
	}
	p.Trip(1, nil, -1)
	expect(t, v.Trim(3), api.OK)
	if p.Off() {
		t.Error("Trim wrote although nothing was there")
	}
	expect(t, v.Trim(4), api.ErrNone)
	expect(t, v.Trim(-1), api.ErrNone)
	expect(t, v.Trim(math.MaxInt), api.ErrNone)
	expect(t, v.Trim(1), api.ErrOff)
	p.Start()
	if v.Files() != 3 {
		t.Error(v.Files())
	}
	expect(t, v.Trim(1), api.OK)
	if v.Files() != 1 || len(d.Medium().Cells) != 5 {
		t.Error(v.Files(), d.Medium())
	}
	p.Trip(3, nil, 0)
	v.Append(1, rec(api.RecChunk, 0, "y"))
	p.Start()
	if v.Files() != 2 {
		t.Error("the mark was carried out", v.Files())
	}
	expect(t, v.Trim(1), api.OK)
	expect(t, v.Trim(0), api.OK)
	if v.Files() != 0 || len(d.Medium().Cells) != 2 {
		t.Error(v.Files())
	}
}

func TestRead(t *testing.T) {
	_, _, v := load(t, 32, api.Medium{Cap: 40})
	l := []api.Record{rec(api.RecChunk, 0, "0123456789"), rec(api.RecManifest, 3, string(bytes.Repeat([]byte("man"), 40))), rec(api.RecExpire, 5, "abcd")}
	appended(t, v, 0, l[0])
	offs := appended(t, v, 1, l...)
	blocks, _, _ := aggr.Pack(32, l...)
	whole := bytes.Join(blocks, nil)
	for i, r := range l {
		want, _ := frame.Bytes(r)
		if got, e := v.Read(2, offs[i], len(want)); e != api.OK || !bytes.Equal(got, want) {
			t.Error(i, e)
		}
	}
	for off := range len(whole) {
		for _, n := range []int{1, 31, 32, 33, 100, len(whole)} {
			got, e := v.Read(2, off, n)
			if off+n <= len(whole) && (e != api.OK || !bytes.Equal(got, whole[off:off+n])) || off+n > len(whole) && (e != api.ErrNone || len(got) != 0) {
				t.Fatal(off, n, e)
			}
		}
	}
}

func TestReadErrors(t *testing.T) {
	p, d, v := load(t, 32, api.Medium{Cap: 40})
	appended(t, v, 0, rec(api.RecChunk, 0, string(make([]byte, 60))))
	appended(t, v, 1, rec(api.RecChunk, 0, "y"))
	m, _ := medium.Spoil(d.Medium(), 3)
	m, _ = medium.Write(m, len(m.Cells), []byte("unclosed"))
	p, d, v = load(t, 32, m)
	for _, c := range []struct {
		file, off, n int
		e            api.Errno
	}{
		{0, -1, 0, api.ErrArg}, {-1, 0, 0, api.ErrArg}, {1, -1, 0, api.ErrArg}, {1, 0, -1, api.ErrArg}, {1, 0, 4*api.MaxState + 1, api.ErrArg}, {1, math.MinInt, 1, api.ErrArg},
		{9, 1000, 0, api.OK}, {1, 0, 0, api.OK}, {1, math.MaxInt, 0, api.OK},
		{1, 0, 32, api.OK}, {1, 31, 2, api.ErrTorn}, {1, 32, 1, api.ErrTorn}, {1, 0, 4 * api.MaxState, api.ErrTorn}, {1, 64, 32, api.OK}, {1, 96, 3, api.OK}, {1, 96, 4, api.ErrNone}, {1, 128, 1, api.ErrNone},
		{1, math.MaxInt, 4 * api.MaxState, api.ErrNone}, {math.MaxInt, 0, 1, api.ErrNone}, {2, 64, 1, api.ErrNone}, {3, 0, 8, api.OK}, {3, 0, 9, api.ErrNone}, {3, 32, 1, api.ErrNone}, {4, 0, 1, api.ErrNone},
	} {
		got, e := v.Read(c.file, c.off, c.n)
		if e != c.e || e == api.OK && len(got) != c.n || e != api.OK && len(got) != 0 {
			t.Error(c, len(got), e)
		}
	}
	if b, _ := v.Read(3, 0, 8); string(b) != "unclosed" {
		t.Error(b)
	}
	p.Cut(nil, -1)
	_, e := v.Read(0, 0, 0)
	expect(t, e, api.ErrOff)
}

func TestScan(t *testing.T) {
	_, d, v := load(t, 32, api.Medium{Cap: 40})
	l := []api.Record{rec(api.RecChunk, 0, "0123456789"), rec(api.RecManifest, 3, "manifest"), rec(api.RecExpire, 5, "abcd")}
	offs := appended(t, v, 0, l...)
	appended(t, v, 1, l[0])
	got, at, whole, e := v.Scan(1)
	if e != api.OK || !whole || !slices.Equal(at, offs) || len(got) != 3 || string(got[1].Data) != "manifest" || got[2].Seq != 5 {
		t.Error(got, at, whole, e)
	}
	m := d.Medium()
	spoilt, _ := medium.Spoil(m, 4)
	_, _, v = load(t, 32, spoilt)
	if got, at, whole, e := v.Scan(1); e != api.OK || whole || len(got) != 2 || len(at) != 2 {
		t.Error(got, at, whole, e)
	}
	spoilt, _ = medium.Spoil(m, 2)
	_, _, v = load(t, 32, spoilt)
	if got, _, whole, e := v.Scan(1); e != api.OK || whole || len(got) != 0 {
		t.Error(got, whole, e)
	}
	if got, _, whole, e := v.Scan(2); e != api.OK || !whole || len(got) != 1 {
		t.Error(got, whole, e)
	}
	open, _ := medium.End(m, len(m.Cells)-1)
	p, _, v := load(t, 32, open)
	for file, want := range map[int]api.Errno{0: api.ErrArg, -1: api.ErrArg, math.MinInt: api.ErrArg, 1: api.OK, 2: api.ErrNone, 3: api.ErrNone, math.MaxInt: api.ErrNone} {
		got, at, whole, e := v.Scan(file)
		if e != want || e != api.OK && (len(got)+len(at) != 0 || whole) {
			t.Error(file, e)
		}
	}
	p.Cut(nil, -1)
	_, _, _, e = v.Scan(0)
	expect(t, e, api.ErrOff)
}

// TestATornEndOfAnAggregate sees that whole is false when an unreadable block follows a whole aggregate.
func TestATornEndOfAnAggregate(t *testing.T) {
	_, d, v := load(t, 39, api.Medium{Cap: 10})
	appended(t, v, 0, rec(api.RecChunk, 0, ""))
	m, _ := medium.Write(d.Medium(), 3, []byte("more"))
	m, _ = medium.Spoil(m, 3)
	m, _ = medium.Mark(m, 4)
	_, _, v = load(t, 39, m)
	if l, _, whole, e := v.Scan(1); len(l) != 1 || whole || e != api.OK {
		t.Error(l, whole, e)
	}
}

func TestWithoutPower(t *testing.T) {
	p, _, v := load(t, 32, api.Medium{Cap: 10})
	appended(t, v, 0, rec(api.RecChunk, 0, "x"))
	p.Cut(nil, -1)
	expect(t, v.Format(api.Label{Vol: -1}), api.ErrOff)
	_, e := v.Label()
	expect(t, e, api.ErrOff)
	_, e = v.Append(-1)
	expect(t, e, api.ErrOff)
	expect(t, v.Trim(-1), api.ErrOff)
	if v.Files() != 1 || v.Room(0) != 8 {
		t.Error(v.Files(), v.Room(0))
	}
	var zero Volume
	expect(t, zero.Format(api.Label{}), api.ErrOff)
	if zero.Files() != 0 || zero.Room(0) != -1 {
		t.Error("the zero volume")
	}
}

// TestWhatWasAppendedIsRead compares a volume with a plain list of aggregates.
func TestWhatWasAppendedIsRead(t *testing.T) {
	r := rand.New(rand.NewSource(1))
	_, _, v := load(t, 50, api.Medium{Cap: 200})
	var model [][]api.Record
	for round := range 400 {
		files := r.Intn(len(model) + 1)
		if r.Intn(3) > 0 {
			files = len(model)
		}
		l := make([]api.Record, 1+r.Intn(5))
		for i := range l {
			l[i] = rec(api.RecChunk+r.Intn(3), r.Intn(100), string(make([]byte, r.Intn(90))))
		}
		need, _ := aggr.Need(50, l...)
		if room := v.Room(files); need+1 > room {
			_, e := v.Append(files, l...)
			expect(t, e, api.ErrFull)
			files = files / 2
			expect(t, v.Trim(files), api.OK)
			model = model[:files]
		} else {
			appended(t, v, files, l...)
			model = append(model[:files:files], l)
		}
		if v.Files() != len(model) {
			t.Fatal(round, v.Files(), len(model))
		}
		for i, want := range model {
			got, offs, whole, e := v.Scan(i + 1)
			if e != api.OK || !whole || len(got) != len(want) {
				t.Fatal(round, i, e, whole)
			}
			for k, w := range want {
				f, _ := frame.Bytes(w)
				if b, e := v.Read(i+1, offs[k], len(f)); e != api.OK || !bytes.Equal(b, f) {
					t.Fatal(round, i, k, e)
				}
			}
		}
	}
}
