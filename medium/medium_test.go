package medium

import (
	"bytes"
	"math"
	"reflect"
	"testing"

	"cellarer/api"
)

func block(s string) api.Cell { return api.Cell{Kind: api.CellBlock, Data: []byte(s)} }
func torn(s string) api.Cell  { return api.Cell{Kind: api.CellTorn, Data: []byte(s)} }

var mark = api.Cell{Kind: api.CellMark}

// sample is the tape of the chapter's example.
func sample() api.Medium {
	return api.Medium{Cap: 6, Cells: []api.Cell{block("ab"), mark, block("c"), torn("d"), mark}}
}

func same(a, b api.Medium) bool {
	if a.Cap != b.Cap || len(a.Cells) != len(b.Cells) {
		return false
	}
	for i, c := range a.Cells {
		d := b.Cells[i]
		if c.Kind != d.Kind || c.Bad != d.Bad || !bytes.Equal(c.Data, d.Data) {
			return false
		}
	}
	return true
}

func TestCheck(t *testing.T) {
	full := api.Medium{Cap: 1, Cells: []api.Cell{mark}}
	valid := []api.Medium{{Cap: 1}, {Cap: api.MaxCells}, full, sample(), {Cap: 1, Cells: []api.Cell{torn("")}},
		{Cap: 1, Cells: []api.Cell{block(string(make([]byte, api.MaxBlock)))}}, {Cap: 1, Cells: []api.Cell{torn(string(make([]byte, api.MaxBlock)))}}, {Cap: 1, Cells: []api.Cell{{Kind: api.CellMark, Bad: true}}}}
	for i, m := range valid {
		if e := Check(m); e != api.OK {
			t.Error("valid", i, e)
		}
	}
	long := string(make([]byte, api.MaxBlock+1))
	invalid := []api.Medium{{}, {Cap: -1}, {Cap: api.MaxCells + 1}, {Cap: 1, Cells: []api.Cell{mark, mark}}, {Cap: 1, Cells: []api.Cell{block("")}},
		{Cap: 1, Cells: []api.Cell{block(long)}}, {Cap: 1, Cells: []api.Cell{torn(long)}}, {Cap: 1, Cells: []api.Cell{{Kind: api.CellMark, Data: []byte{1}}}},
		{Cap: 1, Cells: []api.Cell{{}}}, {Cap: 1, Cells: []api.Cell{{Kind: 4, Data: []byte{1}}}}}
	for i, m := range invalid {
		refuses(t, i, m)
	}
}

// refuses sees that every function refuses the medium.
func refuses(t *testing.T, i int, m api.Medium) {
	var es []api.Errno
	add := func(_ any, e api.Errno) { es = append(es, e) }
	es = append(es, Check(m))
	add(Write(m, -1, nil))
	add(Tear(m, -1, nil, 0))
	add(Mark(m, -1))
	add(End(m, -1))
	add(Read(m, -1))
	add(File(m, -1))
	add(Spoil(m, -1))
	add(Flip(m, -1, -1))
	for k, e := range es {
		if e != api.ErrArg {
			t.Errorf("medium %d, function %d: %d", i, k, e)
		}
	}
	if Files(m) != 0 {
		t.Error("files of an invalid medium", i)
	}
}

func TestNew(t *testing.T) {
	for _, n := range []int{0, -1, api.MaxCells + 1, math.MaxInt, math.MinInt} {
		if m, e := New(n); e != api.ErrArg || !reflect.DeepEqual(m, api.Medium{}) {
			t.Error(n, m, e)
		}
	}
	for _, n := range []int{1, api.MaxCells} {
		if m, e := New(n); e != api.OK || m.Cap != n || len(m.Cells) != 0 {
			t.Error(n, m, e)
		}
	}
}

func TestWritesLoseWhatFollows(t *testing.T) {
	m := sample()
	got, e := Write(m, 2, []byte("xy"))
	if e != api.OK || !same(got, api.Medium{Cap: 6, Cells: []api.Cell{block("ab"), mark, block("xy")}}) {
		t.Error(got, e)
	}
	got, e = Mark(m, 0)
	if e != api.OK || !same(got, api.Medium{Cap: 6, Cells: []api.Cell{mark}}) {
		t.Error(got, e)
	}
	got, e = Write(m, 5, []byte("end"))
	if e != api.OK || len(got.Cells) != 6 || string(got.Cells[5].Data) != "end" {
		t.Error(got, e)
	}
	got, e = End(m, 3)
	if e != api.OK || !same(got, api.Medium{Cap: 6, Cells: m.Cells[:3]}) {
		t.Error(got, e)
	}
	if got, e = End(m, 5); e != api.OK || !same(got, m) {
		t.Error(got, e)
	}
	got.Cells[0].Data[0] = 'z'
	if !same(m, sample()) {
		t.Error("the argument was changed")
	}
}

func TestTear(t *testing.T) {
	m := sample()
	for keep, want := range map[int]string{0: "", 1: "x", 2: "xy", 3: "xy", math.MaxInt: "xy"} {
		got, e := Tear(m, 2, []byte("xy"), keep)
		if e != api.OK || !same(got, api.Medium{Cap: 6, Cells: []api.Cell{block("ab"), mark, torn(want)}}) {
			t.Error(keep, got, e)
		}
	}
	for _, keep := range []int{-1, math.MinInt} {
		got, e := Tear(m, 2, []byte("xy"), keep)
		if e != api.OK || !same(got, m) {
			t.Error(keep, got, e)
		}
		got.Cells[0].Data[0] = 'z'
		if !same(m, sample()) {
			t.Fatal("the result shares memory with the argument")
		}
	}
}

func TestWriteErrors(t *testing.T) {
	full := api.Medium{Cap: 1, Cells: []api.Cell{mark}}
	long := make([]byte, api.MaxBlock+1)
	cases := []struct {
		m api.Medium
		p int
		b []byte
		e api.Errno
	}{
		{full, -1, nil, api.ErrArg}, {full, 2, []byte{1}, api.ErrArg}, {full, math.MaxInt, []byte{1}, api.ErrArg},
		{full, 1, nil, api.ErrLen}, {full, 1, long, api.ErrLen}, {full, 1, []byte{1}, api.ErrFull}, {full, 0, long[1:], api.OK},
	}
	for i, c := range cases {
		w, e := Write(c.m, c.p, c.b)
		if e != c.e || e != api.OK && !reflect.DeepEqual(w, api.Medium{}) {
			t.Errorf("case %d: Write: %d", i, e)
		}
		for _, keep := range []int{-1, 0} {
			if w, e := Tear(c.m, c.p, c.b, keep); e != c.e || e != api.OK && !reflect.DeepEqual(w, api.Medium{}) {
				t.Errorf("case %d: Tear: %d", i, e)
			}
		}
	}
	for p, want := range map[int]api.Errno{-1: api.ErrArg, 0: api.OK, 1: api.ErrFull, 2: api.ErrArg} {
		if _, e := Mark(full, p); e != want {
			t.Error("Mark", p, e)
		}
	}
	for p, want := range map[int]api.Errno{-1: api.ErrArg, 0: api.OK, 1: api.OK, 2: api.ErrArg} {
		if _, e := End(full, p); e != want {
			t.Error("End", p, e)
		}
	}
}

func TestRead(t *testing.T) {
	m := sample()
	m.Cells = append(m.Cells, block("bad"))
	m.Cells[5].Bad = true
	for p, want := range map[int]api.Errno{-1: api.ErrNone, 0: api.OK, 1: api.ErrMark, 2: api.OK, 3: api.ErrTorn, 4: api.ErrMark, 5: api.ErrTorn, 6: api.ErrNone, math.MaxInt: api.ErrNone} {
		b, e := Read(m, p)
		if e != want || e == api.OK && string(b) != string(m.Cells[p].Data) || e != api.OK && len(b) != 0 {
			t.Error(p, b, e)
		}
	}
	b, _ := Read(m, 0)
	b[0] = 'z'
	if m.Cells[0].Data[0] != 'a' {
		t.Error("the result shares memory with the argument")
	}
	m.Cells[1].Bad = true
	if _, e := Read(m, 1); e != api.ErrMark {
		t.Error("a bad mark", e)
	}
}

func TestFiles(t *testing.T) {
	m := sample()
	if Files(m) != 2 || Files(api.Medium{Cap: 3}) != 0 {
		t.Error(Files(m))
	}
	m.Cells[1].Bad = true
	if Files(m) != 2 {
		t.Error("a bad mark is no mark")
	}
	for n, want := range map[int]int{0: 0, 1: 2, 2: 5} {
		if p, e := File(m, n); p != want || e != api.OK {
			t.Error(n, p, e)
		}
	}
	for _, n := range []int{-1, 3, math.MaxInt, math.MinInt} {
		if p, e := File(m, n); p != 0 || e != api.ErrNone {
			t.Error(n, p, e)
		}
	}
}

func TestSpoil(t *testing.T) {
	for p := range 5 {
		m := sample()
		got, e := Spoil(m, p)
		want := sample()
		want.Cells[p].Bad = true
		if e != api.OK || !same(got, want) || !same(m, sample()) {
			t.Error(p, got, e)
		}
	}
	for _, p := range []int{-1, 5, math.MaxInt} {
		if _, e := Spoil(sample(), p); e != api.ErrNone {
			t.Error(p, e)
		}
	}
}

func TestFlip(t *testing.T) {
	m := sample()
	for bit, want := range map[int]string{0: "`b", 7: "\xe1b", 8: "ac", 15: "a\xe2"} {
		got, e := Flip(m, 0, bit)
		if e != api.OK || string(got.Cells[0].Data) != want || !same(m, sample()) {
			t.Error(bit, got, e)
		}
	}
	for _, c := range []struct {
		p, bit int
		e      api.Errno
	}{{0, 16, api.ErrArg}, {0, -1, api.ErrArg}, {0, math.MaxInt, api.ErrArg}, {0, math.MinInt, api.ErrArg}, {1, 0, api.ErrNone}, {3, 0, api.ErrNone}, {-1, 0, api.ErrNone}, {5, -1, api.ErrNone}} {
		if got, e := Flip(m, c.p, c.bit); e != c.e || !reflect.DeepEqual(got, api.Medium{}) {
			t.Error(c, e)
		}
	}
	m.Cells[0].Bad = true
	if got, e := Flip(m, 0, 0); e != api.OK || !got.Cells[0].Bad {
		t.Error("a bad block", e)
	}
}

func TestWhatWasWrittenIsRead(t *testing.T) {
	m, _ := New(10)
	for i := range 10 {
		was := m
		next, e := Write(m, i, []byte{byte(i), 1})
		if e != api.OK {
			t.Fatal(e)
		}
		m = next
		if b, e := Read(m, i); e != api.OK || !bytes.Equal(b, []byte{byte(i), 1}) {
			t.Error(b, e)
		}
		if !same(api.Medium{Cap: 10, Cells: m.Cells[:i]}, was) {
			t.Error("cells before the position changed")
		}
	}
}
