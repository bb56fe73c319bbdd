package aggr

import (
	"bytes"
	"math"
	"math/rand"
	"slices"
	"testing"

	"cellarer/api"
	"cellarer/frame"
)

func rec(kind, seq int, data string) api.Record {
	return api.Record{Kind: kind, Seq: seq, Data: []byte(data)}
}

func head(n int) api.Record { return rec(api.RecHead, n, "") }
func tail(n int) api.Record { return rec(api.RecTail, n, "") }

func frames(t *testing.T, l ...api.Record) []byte {
	t.Helper()
	b, e := frame.Join(l...)
	if e != api.OK {
		t.Fatal(e)
	}
	return b
}

func sameRecords(a, b []api.Record) bool {
	return slices.EqualFunc(a, b, func(x, y api.Record) bool {
		return x.Kind == y.Kind && x.Seq == y.Seq && bytes.Equal(x.Data, y.Data)
	})
}

func TestErrorsInOrder(t *testing.T) {
	ok := rec(api.RecChunk, 0, "x")
	long := rec(api.RecChunk, 0, string(make([]byte, api.MaxFrame+1)))
	cases := []struct {
		size int
		l    []api.Record
		e    api.Errno
	}{
		{31, nil, api.ErrArg}, {api.MaxBlock + 1, nil, api.ErrArg}, {0, nil, api.ErrArg}, {math.MinInt, nil, api.ErrArg}, {math.MaxInt, nil, api.ErrArg},
		{32, nil, api.ErrLen}, {32, make([]api.Record, api.MaxRecords+1), api.ErrLen},
		{32, []api.Record{ok, {}}, api.ErrArg}, {32, []api.Record{long, {}}, api.ErrLen}, {32, []api.Record{{}, long}, api.ErrArg},
		{32, []api.Record{head(1), long}, api.ErrLen}, {32, []api.Record{ok, head(1)}, api.ErrArg}, {256, []api.Record{tail(1)}, api.ErrArg},
		{32, []api.Record{ok}, api.OK}, {api.MaxBlock, slices.Repeat([]api.Record{ok}, api.MaxRecords), api.OK},
	}
	for i, c := range cases {
		n, e := Need(c.size, c.l...)
		blocks, offs, f := Pack(c.size, c.l...)
		if e != c.e || f != c.e {
			t.Errorf("case %d: %d, %d, not %d", i, e, f, c.e)
		}
		if e != api.OK && n+len(blocks)+len(offs) != 0 || e == api.OK && (n != len(blocks) || len(offs) != len(c.l)) {
			t.Errorf("case %d: %d, %d, %d", i, n, len(blocks), len(offs))
		}
	}
}

func TestPack(t *testing.T) {
	blocks, offs, e := Pack(32, rec(api.RecChunk, 0, ""))
	if e != api.OK || len(blocks) != 2 || len(blocks[0]) != 32 || len(blocks[1]) != 7 || !slices.Equal(offs, []int{13}) {
		t.Error(blocks, offs, e)
	}
	a, b := rec(api.RecManifest, 7, "abc"), rec(api.RecExpire, 9, "")
	blocks, offs, e = Pack(55, a, b)
	want := frames(t, head(2), a, b, tail(2))
	if e != api.OK || len(blocks) != 1 || !bytes.Equal(blocks[0], want) || !slices.Equal(offs, []int{13, 29}) {
		t.Error(blocks, offs, e)
	}
	if n, e := Need(54, a, b); n != 2 || e != api.OK {
		t.Error(n, e)
	}
}

func TestReadGivesWhatPackWasGiven(t *testing.T) {
	r := rand.New(rand.NewSource(1))
	for round := range 200 {
		l := make([]api.Record, 1+r.Intn(api.MaxRecords))
		for i := range l {
			data := make([]byte, r.Intn(80))
			r.Read(data)
			l[i] = api.Record{Kind: api.RecChunk + r.Intn(3), Seq: r.Intn(api.MaxSeq), Data: data}
		}
		size := 32 + r.Intn(225)
		blocks, offs, e := Pack(size, l...)
		n, f := Need(size, l...)
		if e != api.OK || f != api.OK || n != len(blocks) {
			t.Fatal(e, f, n, len(blocks))
		}
		for i, b := range blocks {
			if i < n-1 && len(b) != size || len(b) < 1 || len(b) > size {
				t.Fatal("block", i, len(b))
			}
		}
		b := bytes.Join(blocks, nil)
		got, at, whole := Read(b)
		if !whole || !sameRecords(got, l) || !slices.Equal(at, offs) {
			t.Fatal(round, whole, len(got), at)
		}
		cut := r.Intn(len(b))
		got, at, whole = Read(b[:cut])
		k := 0
		for cut >= 13 && k < len(l) && offs[k]+13+len(l[k].Data) <= cut {
			k++
		}
		if whole || !sameRecords(got, l[:k]) || !slices.Equal(at, offs[:k]) {
			t.Fatal("prefix", round, whole, len(got), k)
		}
	}
}

func TestReadOfOtherBytes(t *testing.T) {
	a, b := rec(api.RecChunk, 0, "aa"), rec(api.RecManifest, 1, "bbb")
	damaged := frames(t, head(2), a, b, tail(2))
	damaged[len(damaged)-14] ^= 1
	many := slices.Repeat([]api.Record{a}, api.MaxRecords+1)
	cases := []struct {
		b     []byte
		n     int
		whole bool
	}{
		{nil, 0, false},
		{[]byte("no frame"), 0, false},
		{frames(t, a, b, tail(2)), 0, false},
		{frames(t, tail(0)), 0, false},
		{frames(t, head(0)), 0, false},
		{frames(t, head(0), tail(0)), 0, false},
		{frames(t, head(2), a, b, tail(2)), 2, true},
		{frames(t, head(2), a, b), 2, false},
		{frames(t, head(1), a, b, tail(2)), 2, false},
		{frames(t, head(2), a, b, tail(1)), 2, false},
		{frames(t, head(3), a, b, tail(3)), 2, false},
		{frames(t, head(2), a, b, rec(api.RecTail, 2, "x")), 2, false},
		{frames(t, head(2), a, b, tail(2), a), 2, false},
		{append(frames(t, head(2), a, b, tail(2)), 0), 2, false},
		{frames(t, head(2), a, head(2), b, tail(2)), 1, false},
		{damaged, 1, false},
		{frames(t, append(append([]api.Record{head(65)}, many...), tail(65))...), 65, false},
	}
	for i, c := range cases {
		l, offs, whole := Read(c.b)
		if len(l) != c.n || len(offs) != c.n || whole != c.whole {
			t.Errorf("case %d: %d, %v, %v", i, len(l), offs, whole)
		}
	}
}

func TestResultsAreNewMemory(t *testing.T) {
	b := frames(t, head(1), rec(api.RecChunk, 0, "data"), tail(1))
	l, _, _ := Read(b)
	l[0].Data[0] = 'x'
	if again, _, whole := Read(b); !whole || string(again[0].Data) != "data" {
		t.Error("the result shares memory with the argument")
	}
}
