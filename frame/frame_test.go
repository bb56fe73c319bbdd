package frame

import (
	"bytes"
	"hash/crc32"
	"math"
	"math/rand"
	"reflect"
	"testing"

	"cellarer/api"
)

func sample() []api.Record {
	return []api.Record{
		{Kind: api.RecHead, Seq: 2},
		{Kind: api.RecChunk, Data: []byte("chunk")},
		{Kind: api.RecManifest, Seq: api.MaxSeq - 1, Data: bytes.Repeat([]byte{7}, api.MaxFrame)},
		{Kind: api.RecExpire, Seq: 258, Data: []byte{0, 0, 0, 1}},
		{Kind: api.RecTail, Seq: 2},
	}
}

func TestCheck(t *testing.T) {
	long := make([]byte, api.MaxFrame+1)
	cases := []struct {
		r api.Record
		e api.Errno
	}{
		{api.Record{Kind: api.RecChunk}, api.OK},
		{api.Record{Kind: api.RecTail, Seq: api.MaxSeq - 1, Data: long[1:]}, api.OK},
		{api.Record{Kind: 0}, api.ErrArg},
		{api.Record{Kind: 6, Data: long}, api.ErrArg},
		{api.Record{Kind: math.MinInt}, api.ErrArg},
		{api.Record{Kind: 1, Seq: -1}, api.ErrArg},
		{api.Record{Kind: 1, Seq: api.MaxSeq, Data: long}, api.ErrArg},
		{api.Record{Kind: 1, Seq: 1, Data: long}, api.ErrLen},
	}
	for i, c := range cases {
		if e := Check(c.r); e != c.e {
			t.Errorf("case %d: %d, not %d", i, e, c.e)
		}
		b, e := Bytes(c.r)
		if e != c.e || e != api.OK && len(b) != 0 {
			t.Errorf("case %d: Bytes: %d, %d", i, len(b), e)
		}
		if b, e := Join(api.Record{Kind: 1}, c.r, api.Record{Kind: 1, Data: long}); c.e != api.OK && (e != c.e || len(b) != 0) {
			t.Errorf("case %d: Join: %d, %d", i, len(b), e)
		}
	}
}

func TestBytes(t *testing.T) {
	got, e := Bytes(api.Record{Kind: api.RecExpire, Seq: 0x01020304, Data: []byte("ab")})
	sum := crc32.ChecksumIEEE([]byte("\x03\x01\x02\x03\x04\x00\x00\x00\x02ab"))
	want := []byte{3, 1, 2, 3, 4, 0, 0, 0, 2, byte(sum), byte(sum >> 8), byte(sum >> 16), byte(sum >> 24), 'a', 'b'}
	if e != api.OK || !bytes.Equal(got, want) {
		t.Error(got, e)
	}
	if b, _ := Bytes(api.Record{Kind: 1}); len(b) != 13 {
		t.Error(len(b))
	}
	if b, e := Join(); len(b) != 0 || e != api.OK {
		t.Error(b, e)
	}
}

func TestSplitGivesWhatJoinWasGiven(t *testing.T) {
	l := sample()
	b, e := Join(l...)
	if e != api.OK {
		t.Fatal(e)
	}
	at := 0
	for i, want := range l {
		one, _ := Bytes(want)
		r, next, e := Read(b, at)
		if e != api.OK || r.Kind != want.Kind || r.Seq != want.Seq || !bytes.Equal(r.Data, want.Data) || next != at+13+len(want.Data) || !bytes.Equal(one, b[at:next]) {
			t.Error(i, next, e)
		}
		at = next
	}
	got, e := Split(b)
	if e != api.OK || len(got) != len(l) {
		t.Fatal(len(got), e)
	}
	again, _ := Join(got...)
	if !bytes.Equal(again, b) {
		t.Error("other records")
	}
	got[1].Data[0]++
	if b[26] != 'c' {
		t.Error("a record shares memory with the bytes")
	}
	if none, e := Split(nil); len(none) != 0 || e != api.OK {
		t.Error(none, e)
	}
}

func TestReadRefuses(t *testing.T) {
	b, _ := Bytes(api.Record{Kind: 2, Seq: 9, Data: []byte("data")})
	change := func(at int, to byte) []byte {
		c := bytes.Clone(b)
		c[at] = to
		return c
	}
	cases := []struct {
		b  []byte
		at int
		e  api.Errno
	}{
		{b, -1, api.ErrArg}, {b, len(b) + 1, api.ErrArg}, {b, math.MinInt, api.ErrArg}, {b, math.MaxInt, api.ErrArg},
		{b, len(b), api.ErrBytes}, {nil, 0, api.ErrBytes}, {b[:len(b)-1], 0, api.ErrBytes}, {b[:12], 0, api.ErrBytes}, {b[:5], 0, api.ErrBytes},
		{change(0, 0), 0, api.ErrBytes}, {change(0, 6), 0, api.ErrBytes}, {change(1, 64), 0, api.ErrBytes}, {change(5, 255), 0, api.ErrBytes}, {change(8, 5), 0, api.ErrBytes},
		{change(0, 3), 0, api.ErrSum}, {change(4, 8), 0, api.ErrSum}, {change(8, 3), 0, api.ErrSum}, {change(9, b[9]+1), 0, api.ErrSum}, {change(16, 0), 0, api.ErrSum},
	}
	for i, c := range cases {
		r, next, e := Read(c.b, c.at)
		if e != c.e || next != 0 || !reflect.DeepEqual(r, api.Record{}) {
			t.Errorf("case %d: %v, %d, %d", i, r, next, e)
		}
	}
	if l, e := Split(append(bytes.Clone(b), change(16, 0)...)); e != api.ErrSum || len(l) != 0 {
		t.Error(l, e)
	}
	if l, e := Split(append(bytes.Clone(b), 1)); e != api.ErrBytes || len(l) != 0 {
		t.Error(l, e)
	}
}

func TestLengthBehindTheLimit(t *testing.T) {
	b, _ := Bytes(api.Record{Kind: 1, Data: make([]byte, api.MaxFrame)})
	b[7], b[8] = byte((api.MaxFrame+1)>>8), byte((api.MaxFrame+1)&255)
	b = append(b, 0)
	if _, _, e := Read(b, 0); e != api.ErrBytes {
		t.Error(e)
	}
}

func TestBurstsInDataAreRefused(t *testing.T) {
	r := rand.New(rand.NewSource(1))
	for range 2000 {
		data := make([]byte, 4+r.Intn(60))
		r.Read(data)
		b, _ := Bytes(api.Record{Kind: 1, Data: data})
		at, burst := r.Intn(8*len(data)-31), r.Uint32()|1
		for k := range 32 {
			b[13+(at+k)/8] ^= byte(burst>>k&1) << ((at + k) % 8)
		}
		if _, _, e := Read(b, 0); e != api.ErrSum {
			t.Fatal(at, burst, e)
		}
	}
}
