package cdc

import (
	"bytes"
	"math/big"
	"math/rand"
	"testing"

	"cellarer/api"
)

// slow finds the end of the first chunk with numbers of any size.
func slow(b []byte) int {
	register, modulus := new(big.Int), new(big.Int).Lsh(big.NewInt(1), 32)
	for i := range b {
		register.Mul(register, big.NewInt(2))
		register.Add(register, new(big.Int).Mul(big.NewInt(int64(b[i])+1), big.NewInt(0x9e3779b1)))
		register.Mod(register, modulus)
		top := new(big.Int).Rsh(register, 28)
		if i+1 >= api.MinChunk && top.Sign() == 0 || i+1 == api.MaxChunk {
			return i + 1
		}
	}
	return len(b)
}

func samples() [][]byte {
	r := rand.New(rand.NewSource(1))
	var l [][]byte
	for n := range 300 {
		b := make([]byte, n)
		r.Read(b)
		few := make([]byte, n)
		for i := range few {
			few[i] = byte(r.Intn(2)) * 255
		}
		l = append(l, b, few, bytes.Repeat([]byte{byte(n)}, n))
	}
	return l
}

func TestNextEndsWhereTheRegisterSays(t *testing.T) {
	for _, b := range samples() {
		if Next(b) != slow(b) {
			t.Fatalf("%v: %d, not %d", b, Next(b), slow(b))
		}
	}
	if Next(nil) != 0 {
		t.Error("no bytes have a chunk")
	}
	for n := 1; n < api.MinChunk; n++ {
		if Next(make([]byte, n)) != n {
			t.Error(n)
		}
	}
}

func TestCutsOfBothKinds(t *testing.T) {
	early, full := 0, 0
	for _, b := range samples() {
		n := Next(b)
		if n < len(b) && n < api.MaxChunk {
			early++
		}
		if n == api.MaxChunk {
			full++
		}
	}
	if early == 0 || full == 0 {
		t.Error(early, full)
	}
}

func TestCutGivesTheInput(t *testing.T) {
	for _, b := range samples() {
		was := bytes.Clone(b)
		l, e := Cut(b)
		if e != api.OK || !bytes.Equal(bytes.Join(l, nil), b) {
			t.Fatal(b, l, e)
		}
		at := 0
		for i, c := range l {
			if len(c) != Next(b[at:]) || len(c) > api.MaxChunk || len(c) == 0 || i < len(l)-1 && len(c) < api.MinChunk {
				t.Fatal("chunk", i, "of", len(c))
			}
			at += len(c)
		}
		for _, c := range l {
			clear(c[:cap(c)])
		}
		if !bytes.Equal(b, was) {
			t.Fatal("chunks share memory with the input")
		}
	}
}

func TestWhatFollowsDoesNotMatter(t *testing.T) {
	for _, b := range samples() {
		n := Next(b)
		if n == len(b) && n < api.MaxChunk {
			continue
		}
		if other := append(bytes.Clone(b[:n]), "something else"...); Next(other) != n {
			t.Fatal(b)
		}
	}
}

func TestCutRefusesLongInput(t *testing.T) {
	if l, e := Cut(make([]byte, api.MaxBytes+1)); e != api.ErrLen || len(l) != 0 {
		t.Error(len(l), e)
	}
	if l, e := Cut(make([]byte, api.MaxBytes)); e != api.OK || len(bytes.Join(l, nil)) != api.MaxBytes {
		t.Error(len(l), e)
	}
	if l, e := Cut(nil); e != api.OK || len(l) != 0 {
		t.Error(l, e)
	}
}
