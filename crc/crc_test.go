package crc

import (
	"hash/crc32"
	"math/rand"
	"testing"
)

// slow computes the CRC bit by bit, as the document words it.
func slow(b []byte) uint32 {
	r := ^uint32(0)
	for _, c := range b {
		for bit := range 8 {
			differs := uint32(c)>>bit&1 != r&1
			r >>= 1
			if differs {
				r ^= 0xedb88320
			}
		}
	}
	return ^r
}

func TestSumOfKnownStrings(t *testing.T) {
	for text, want := range map[string]uint32{"": 0, "123456789": 0xcbf43926, "a": 0xe8b7be43} {
		if got := Sum([]byte(text)); got != want {
			t.Errorf("%q: %08x, not %08x", text, got, want)
		}
	}
	if Sum() != 0 || Sum(nil, nil) != 0 {
		t.Error("no bytes have another sum than 0")
	}
}

func TestSumIsThatOfTheText(t *testing.T) {
	r := rand.New(rand.NewSource(1))
	for n := range 300 {
		b := make([]byte, n)
		r.Read(b)
		got := Sum(b)
		if got != slow(b) || got != crc32.ChecksumIEEE(b) {
			t.Fatalf("%d bytes: %08x", n, got)
		}
		i, j := r.Intn(n+1), r.Intn(n+1)
		i, j = min(i, j), max(i, j)
		if Sum(b[:i], nil, b[i:j], b[j:]) != got {
			t.Fatal("the parts matter", i, j)
		}
	}
}

func TestBytesAreLittleEndian(t *testing.T) {
	if got := Bytes([]byte("1234"), []byte("56789")); got != [4]byte{0x26, 0x39, 0xf4, 0xcb} {
		t.Errorf("%x", got)
	}
	if got := Bytes(); got != [4]byte{} {
		t.Errorf("%x", got)
	}
}

func TestBurstsAreSeen(t *testing.T) {
	r := rand.New(rand.NewSource(2))
	for range 3000 {
		b := make([]byte, 5+r.Intn(40))
		r.Read(b)
		was := Sum(b)
		burst := r.Uint32()
		if burst == 0 {
			continue
		}
		at := r.Intn(8*len(b) - 31)
		for k := range 32 {
			if burst>>k&1 == 1 {
				b[(at+k)/8] ^= 1 << ((at + k) % 8)
			}
		}
		if Sum(b) == was {
			t.Fatal("a burst is not seen", at, burst)
		}
	}
}

func TestResidue(t *testing.T) {
	r := rand.New(rand.NewSource(3))
	for n := range 100 {
		b := make([]byte, n)
		r.Read(b)
		sum := Bytes(b)
		if got := Sum(b, sum[:]); got != 0x2144df1c {
			t.Fatalf("%08x", got)
		}
	}
}
