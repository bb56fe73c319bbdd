package bin

import (
	"bytes"
	"math"
	"testing"

	"cellarer/api"
)

func TestPutWritesBigEndian(t *testing.T) {
	cases := []struct {
		b       []byte
		n, size int
		want    []byte
	}{
		{nil, 258, 2, []byte{1, 2}},
		{nil, 0, 1, []byte{0}},
		{[]byte{7, 8}, 255, 1, []byte{7, 8, 255}},
		{nil, 1, 7, []byte{0, 0, 0, 0, 0, 0, 1}},
		{nil, 1<<56 - 1, 7, bytes.Repeat([]byte{255}, 7)},
	}
	for _, c := range cases {
		got, e := Put(c.b, c.n, c.size)
		if e != api.OK || !bytes.Equal(got, c.want) {
			t.Errorf("Put(%v, %d, %d) = %v, %d", c.b, c.n, c.size, got, e)
		}
	}
}

func TestPutRefuses(t *testing.T) {
	for _, c := range [][2]int{{0, 0}, {0, -1}, {0, 8}, {1, math.MaxInt}, {1, math.MinInt}, {-1, 7}, {math.MinInt, 1}, {math.MaxInt, 7}} {
		if b, e := Put([]byte{1}, c[0], c[1]); e != api.ErrArg || len(b) != 0 {
			t.Errorf("Put of %v = %v, %d", c, b, e)
		}
	}
	for size := 1; size <= 7; size++ {
		if b, e := Put(nil, 1<<(8*size), size); e != api.ErrArg || len(b) != 0 {
			t.Errorf("256^%d in %d bytes = %v, %d", size, size, b, e)
		}
	}
}

func TestPutKeepsItsArgument(t *testing.T) {
	room := []byte{1, 2, 3, 4}
	out, _ := Put(room[:1], 9, 2)
	if !bytes.Equal(room, []byte{1, 2, 3, 4}) || !bytes.Equal(out, []byte{1, 0, 9}) {
		t.Error(room, out)
	}
	out[0] = 50
	if room[0] != 1 {
		t.Error("the result shares memory with the argument")
	}
	part, _ := PutPart(room[:1], room[2:3])
	if !bytes.Equal(room, []byte{1, 2, 3, 4}) || !bytes.Equal(part, []byte{1, 0, 0, 0, 1, 3}) {
		t.Error(room, part)
	}
}

func TestGetErrors(t *testing.T) {
	b := []byte{1, 2, 3}
	cases := []struct {
		at, size, n, next int
		e                 api.Errno
	}{
		{0, 3, 0x010203, 3, api.OK},
		{1, 1, 2, 2, api.OK},
		{3, 1, 0, 0, api.ErrBytes},
		{2, 2, 0, 0, api.ErrBytes},
		{4, 1, 0, 0, api.ErrArg},
		{-1, 1, 0, 0, api.ErrArg},
		{0, 0, 0, 0, api.ErrArg},
		{0, 8, 0, 0, api.ErrArg},
		{math.MaxInt, 7, 0, 0, api.ErrArg},
		{math.MinInt, 7, 0, 0, api.ErrArg},
	}
	for _, c := range cases {
		n, next, e := Get(b, c.at, c.size)
		if n != c.n || next != c.next || e != c.e {
			t.Errorf("Get(%d, %d) = %d, %d, %d", c.at, c.size, n, next, e)
		}
	}
	if _, _, e := Get(b[:1], 0, 2); e != api.ErrBytes {
		t.Error("memory behind the length was read")
	}
}

func TestPartErrors(t *testing.T) {
	if b, e := PutPart(nil, make([]byte, api.MaxState+1)); e != api.ErrLen || len(b) != 0 {
		t.Error(len(b), e)
	}
	whole, e := PutPart([]byte{5}, []byte("part"))
	if e != api.OK || !bytes.Equal(whole, []byte("\x05\x00\x00\x00\x04part")) {
		t.Fatal(whole, e)
	}
	for at := -1; at <= len(whole)+1; at++ {
		for end := range len(whole) {
			if at > end || at < 0 {
				if _, _, e := GetPart(whole[:end], at); e != api.ErrArg {
					t.Error(at, end, e)
				}
			} else if p, next, e := GetPart(whole[:end], at); at == 1 && (e != api.ErrBytes || len(p) != 0 || next != 0) {
				t.Error(at, end, p, next, e)
			}
		}
	}
	long, _ := Put(nil, api.MaxState+1, 4)
	long = append(long, make([]byte, api.MaxState+1)...)
	if _, _, e := GetPart(long, 0); e != api.ErrBytes {
		t.Error(e)
	}
}

func TestWhatWasPutIsGot(t *testing.T) {
	b := []byte{}
	for size := 1; size <= 7; size++ {
		for _, n := range []int{0, 1, 1<<(8*size) - 1, 1 << (8*size - 1)} {
			b, _ = Put(b, n, size)
			got, next, e := Get(b, len(b)-size, size)
			if got != n || next != len(b) || e != api.OK {
				t.Error(size, n, got, next, e)
			}
		}
	}
	for _, n := range []int{0, 1, 255, 256, api.MaxState} {
		part := bytes.Repeat([]byte{byte(n)}, n)
		at := len(b)
		b, _ = PutPart(b, part)
		got, next, e := GetPart(b, at)
		if !bytes.Equal(got, part) || next != len(b) || e != api.OK {
			t.Error(n, len(got), next, e)
		}
	}
}
