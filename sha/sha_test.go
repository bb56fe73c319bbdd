package sha

import (
	"bytes"
	"crypto/sha256"
	"encoding/hex"
	"math/rand"
	"testing"
)

func TestSumOfKnownStrings(t *testing.T) {
	for text, want := range map[string]string{
		"":    "e3b0c44298fc1c149afbf4c8996fb92427ae41e4649b934ca495991b7852b855",
		"abc": "ba7816bf8f01cfea414140de5dae2223b00361a396177a9cb410ff61f20015ad",
		"abcdbcdecdefdefgefghfghighijhijkijkljklmklmnlmnomnopnopq": "248d6a61d20638b8e5c026930c3e6039a33ce45964ff2167f6ecedd419db06c1",
	} {
		got := Sum([]byte(text))
		if hex.EncodeToString(got[:]) != want {
			t.Errorf("%q: %x", text, got)
		}
	}
	if Sum() != Sum(nil) || Sum(nil, []byte{}) != Sum([]byte("")) {
		t.Error("no parts differ from an empty one")
	}
}

func TestSumOfAllLengths(t *testing.T) {
	r := rand.New(rand.NewSource(1))
	for n := range 400 {
		b := make([]byte, n)
		r.Read(b)
		if Sum(b) != sha256.Sum256(b) {
			t.Fatal(n)
		}
	}
	long := bytes.Repeat([]byte("x"), 1<<16+55)
	if Sum(long) != sha256.Sum256(long) {
		t.Error("a long one")
	}
}

func TestPartsDoNotMatter(t *testing.T) {
	r := rand.New(rand.NewSource(2))
	for range 300 {
		b := make([]byte, r.Intn(300))
		r.Read(b)
		whole := bytes.Clone(b)
		var parts [][]byte
		for rest := b; len(rest) > 0; {
			n := r.Intn(len(rest) + 1)
			parts = append(parts, rest[:n])
			rest = rest[n:]
		}
		if Sum(parts...) != Sum(whole) {
			t.Fatal(len(b), len(parts))
		}
		if !bytes.Equal(b, whole) {
			t.Fatal("the argument was changed")
		}
	}
}
