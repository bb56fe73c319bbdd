package manifest

import (
	"bytes"
	"crypto/sha256"
	"math"
	"math/rand"
	"reflect"
	"testing"

	"cellarer/api"
	"cellarer/cdc"
	"cellarer/tree"
)

func part(path string, size, ids int) api.Part {
	p := api.Part{Path: path, Size: size}
	for i := range ids {
		p.Ids = append(p.Ids, [32]byte{byte(i), 31: 7})
	}
	return p
}

func TestCheck(t *testing.T) {
	parts := []api.Part{part("a", 0, 0), part("b", 1, 1), part("c", api.MaxData, 25), part("d", 5, 25), part("e", 0, 0), part("f", 0, 0)}
	for i, m := range []api.Manifest{{Name: "n"}, {Name: "n", Parts: parts}, {Name: "n", Parts: []api.Part{part("a", 200, 1)}}} {
		if e := Check(m); e != api.OK {
			t.Error(i, e)
		}
	}
	for i, m := range []api.Manifest{
		{}, {Name: "a b"}, {Name: "n", Parts: append(parts[:6:6], part("g", 0, 0))}, {Name: "n", Parts: []api.Part{part("", 0, 0)}},
		{Name: "n", Parts: []api.Part{part("b", 0, 0), part("a", 0, 0)}}, {Name: "n", Parts: []api.Part{part("a", 0, 0), part("a", 0, 0)}},
		{Name: "n", Parts: []api.Part{part("a", -1, 1)}}, {Name: "n", Parts: []api.Part{part("a", api.MaxData+1, 1)}}, {Name: "n", Parts: []api.Part{part("a", math.MinInt, 0)}},
		{Name: "n", Parts: []api.Part{part("a", 5, 26)}}, {Name: "n", Parts: []api.Part{part("a", 0, 1)}}, {Name: "n", Parts: []api.Part{part("a", 1, 0)}},
	} {
		if e := Check(m); e != api.ErrArg {
			t.Error(i, e)
		}
		if b, e := Bytes(m); e != api.ErrArg || len(b) != 0 {
			t.Error(i, b, e)
		}
		if l, e := Join(m, nil); e != api.ErrArg || len(l) != 0 {
			t.Error(i, l, e)
		}
	}
}

func TestBytes(t *testing.T) {
	id := [32]byte{1, 31: 2}
	m := api.Manifest{Name: "nm", Parts: []api.Part{{Path: "a"}, {Path: "bc", Size: 199, Ids: [][32]byte{id, id}}}}
	want := append([]byte("\x02nm\x02\x01a\x00\x00\x00\x02bc\x00\xc7\x02"), append(id[:], id[:]...)...)
	got, e := Bytes(m)
	if e != api.OK || !bytes.Equal(got, want) {
		t.Errorf("%q, %d", got, e)
	}
	back, e := Read(got)
	if e != api.OK || !reflect.DeepEqual(back, m) {
		t.Error(back, e)
	}
	for n := range got {
		if m, e := Read(got[:n]); e != api.ErrBytes || !reflect.DeepEqual(m, api.Manifest{}) {
			t.Error(n, m, e)
		}
	}
	for _, bad := range [][]byte{append(bytes.Clone(got), 0), []byte("\x00\x00"), []byte("\x01 \x00"), []byte("\x01n\x01\x01a\x00\x01\x00"), []byte("\x01n\x02\x01b\x00\x00\x00\x01a\x00\x00\x00"), []byte("\x01n\x01\x01a\x00\xc9\x00")} {
		if _, e := Read(bad); e != api.ErrBytes {
			t.Errorf("%q: %d", bad, e)
		}
	}
}

// trees returns some valid trees, with files that share chunks.
func trees() [][]api.File {
	r := rand.New(rand.NewSource(1))
	l := [][]api.File{nil}
	for range 100 {
		var one []api.File
		shared := make([]byte, 120)
		r.Read(shared)
		for i := range r.Intn(api.MaxFiles + 1) {
			data := make([]byte, r.Intn(81))
			r.Read(data)
			if r.Intn(2) == 0 {
				data = append(bytes.Clone(shared), data...)
			}
			one = append(one, api.File{Path: string(rune('a' + i)), Data: data})
		}
		l = append(l, one)
	}
	return l
}

func TestBuild(t *testing.T) {
	for _, l := range trees() {
		m, chunks, e := Build("name", l)
		if e != api.OK || m.Name != "name" || len(m.Parts) != len(l) || Check(m) != api.OK {
			t.Fatal(m, e)
		}
		want := map[[32]byte]bool{}
		for i, f := range l {
			cut, _ := cdc.Cut(f.Data)
			p := m.Parts[i]
			if p.Path != f.Path || p.Size != len(f.Data) || len(p.Ids) != len(cut) {
				t.Fatal(p)
			}
			for k, c := range cut {
				want[sha256.Sum256(c)] = true
				if p.Ids[k] != sha256.Sum256(c) {
					t.Fatal("id", k)
				}
			}
		}
		ids := Ids(m)
		if len(ids) != len(want) || len(chunks) != len(want) {
			t.Fatal(len(ids), len(chunks), len(want))
		}
		for i, c := range chunks {
			if ids[i] != sha256.Sum256(c) || i > 0 && bytes.Compare(ids[i-1][:], ids[i][:]) >= 0 {
				t.Fatal("chunk", i)
			}
		}
		got, e := Join(m, chunks)
		if e != api.OK || !tree.Same(got, l) {
			t.Fatal(e)
		}
		b, _ := Bytes(m)
		back, e := Read(b)
		if again, _ := Bytes(back); e != api.OK || !bytes.Equal(again, b) {
			t.Fatal(e)
		}
	}
}

func TestBuildErrors(t *testing.T) {
	for i, c := range []struct {
		name string
		l    []api.File
		e    api.Errno
	}{
		{"", make([]api.File, api.MaxFiles+1), api.ErrArg}, {"n", make([]api.File, api.MaxFiles+1), api.ErrLen}, {"n", []api.File{{Path: ""}}, api.ErrArg},
		{"n", []api.File{{Path: "b"}, {Path: "a"}}, api.ErrArg}, {"n", []api.File{{Path: "", Data: make([]byte, api.MaxData+1)}}, api.ErrLen},
	} {
		m, chunks, e := Build(c.name, c.l)
		if e != c.e || len(chunks) != 0 || !reflect.DeepEqual(m, api.Manifest{}) {
			t.Error(i, e)
		}
	}
}

func TestIdsOfAnyManifest(t *testing.T) {
	m := api.Manifest{Parts: []api.Part{{Ids: [][32]byte{{3}, {1}, {3}}}, {Ids: [][32]byte{{2}, {1}}}}}
	if got := Ids(m); !reflect.DeepEqual(got, [][32]byte{{1}, {2}, {3}}) {
		t.Error(got)
	}
	if m.Parts[0].Ids[0] != [32]byte{3} || len(Ids(api.Manifest{})) != 0 {
		t.Error("the argument was changed")
	}
}

func TestJoinErrors(t *testing.T) {
	a, b := []byte("chunk a"), []byte("chunk bb")
	m := api.Manifest{Name: "n", Parts: []api.Part{{Path: "x", Size: 14, Ids: [][32]byte{sha256.Sum256(a), sha256.Sum256(b)}}, {Path: "y", Size: 8, Ids: [][32]byte{sha256.Sum256(b)}}}}
	for i, c := range []struct {
		chunks [][]byte
		e      api.Errno
	}{{nil, api.ErrNone}, {[][]byte{a}, api.ErrNone}, {[][]byte{b}, api.ErrNone}, {[][]byte{a, b}, api.ErrLen}} {
		if l, e := Join(m, c.chunks); e != c.e || len(l) != 0 {
			t.Error(i, l, e)
		}
	}
	for size, want := range map[int]api.Errno{14: api.ErrLen, 15: api.OK, 16: api.ErrLen} {
		m.Parts[0].Size = size
		l, e := Join(m, [][]byte{b, []byte("other"), a, b})
		if e != want || e == api.OK && (string(l[0].Data) != "chunk achunk bb" || string(l[1].Data) != "chunk bb") {
			t.Error(size, l, e)
		}
		if e == api.OK {
			l[0].Data[0], l[1].Data[0] = 'x', 'y'
			if a[0] != 'c' || b[0] != 'c' || l[0].Data[7] != 'c' {
				t.Error("the result shares memory")
			}
		}
	}
}
