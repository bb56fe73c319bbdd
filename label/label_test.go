package label

import (
	"bytes"
	"hash/crc32"
	"math"
	"testing"

	"cellarer/api"
)

// seal appends the checksum.
func seal(b []byte) []byte {
	sum := crc32.ChecksumIEEE(b)
	return append(bytes.Clone(b), byte(sum), byte(sum>>8), byte(sum>>16), byte(sum>>24))
}

func TestBytes(t *testing.T) {
	got, e := Bytes(api.Label{Vol: 3, Pool: 1, Epoch: 66051})
	want := seal([]byte{0x43, 0x45, 0x4c, 0x4c, 3, 1, 0, 1, 2, 3})
	if e != api.OK || !bytes.Equal(got, want) || len(got) != 14 {
		t.Error(got, e)
	}
}

func TestCheck(t *testing.T) {
	for _, l := range []api.Label{{}, {Vol: api.MaxVols - 1, Pool: 1, Epoch: api.MaxEpoch}} {
		if e := Check(l); e != api.OK {
			t.Error(l, e)
		}
	}
	for _, l := range []api.Label{{Vol: -1}, {Vol: api.MaxVols}, {Pool: -1}, {Pool: 2}, {Epoch: -1}, {Epoch: api.MaxEpoch + 1}, {Vol: math.MaxInt, Pool: math.MinInt}} {
		if e := Check(l); e != api.ErrArg {
			t.Error(l, e)
		}
		if b, e := Bytes(l); e != api.ErrArg || len(b) != 0 {
			t.Error(l, b, e)
		}
	}
}

func TestReadGivesWhatBytesWasGiven(t *testing.T) {
	for vol := range api.MaxVols {
		for pool := range 2 {
			for _, epoch := range []int{0, 1, 255, 256, 65535, api.MaxEpoch} {
				l := api.Label{Vol: vol, Pool: pool, Epoch: epoch}
				b, _ := Bytes(l)
				got, e := Read(b)
				again, _ := Bytes(got)
				if e != api.OK || got != l || !bytes.Equal(again, b) {
					t.Error(l, got, e)
				}
			}
		}
	}
}

func TestReadRefuses(t *testing.T) {
	good, _ := Bytes(api.Label{Vol: 2, Epoch: 5})
	for n := range good {
		if l, e := Read(good[:n]); e != api.ErrLabel || l != (api.Label{}) {
			t.Error(n, l, e)
		}
		for bit := range 8 {
			b := bytes.Clone(good)
			b[n] ^= 1 << bit
			if l, e := Read(b); e != api.ErrLabel || l != (api.Label{}) {
				t.Error(n, bit, l, e)
			}
		}
	}
	if _, e := Read(append(bytes.Clone(good), 0)); e != api.ErrLabel {
		t.Error("a byte too many", e)
	}
	if _, e := Read(nil); e != api.ErrLabel {
		t.Error(e)
	}
	for _, b := range []string{"CELL\x08\x00\x00\x00\x00\x00", "CELL\x00\x02\x00\x00\x00\x00", "CELL\x00\x00\x00\x10\x00\x01", "CELL\x00\x00\xff\xff\xff\xff", "cell\x00\x00\x00\x00\x00\x00"} {
		if _, e := Read(seal([]byte(b))); e != api.ErrLabel {
			t.Errorf("%q: %d", b, e)
		}
	}
	if _, e := Read(seal([]byte("CELL\x00\x00\x00\x10\x00\x00"))); e != api.OK {
		t.Error("the greatest epoch", e)
	}
}
