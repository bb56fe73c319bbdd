package wire

import (
	"bytes"
	"testing"
)

func TestWhatIsWrittenIsRead(t *testing.T) {
	var w Writer
	id := [32]byte{1, 31: 2}
	w.Number(258, 2)
	w.Bytes([]byte("abc"))
	w.Bytes(id[:])
	b, ok := w.Result()
	if !ok || !bytes.Equal(b[:5], []byte{1, 2, 'a', 'b', 'c'}) {
		t.Error(b, ok)
	}
	r := NewReader(b)
	if r.Number(2) != 258 || string(r.Bytes(3)) != "abc" || r.Whole() || !r.Good() || r.Id() != id || !r.Whole() {
		t.Error("read otherwise")
	}
	r.Refuse()
	if r.Good() || r.Whole() {
		t.Error("not refused")
	}
}

func TestErrorsStay(t *testing.T) {
	var w Writer
	w.Number(256, 1)
	w.Number(1, 1)
	if b, ok := w.Result(); ok || len(b) != 0 {
		t.Error(b, ok)
	}
	for _, read := range []func(*Reader){func(r *Reader) { r.Number(4) }, func(r *Reader) { r.Bytes(4) }, func(r *Reader) { r.Bytes(-1) }, func(r *Reader) { r.Id() }} {
		r := NewReader([]byte{1, 2, 3})
		read(r)
		if r.Good() || r.Number(1) != 0 || len(r.Bytes(1)) != 0 || r.Whole() {
			t.Error("an error is forgotten")
		}
	}
}

func TestBytesAreNewMemory(t *testing.T) {
	b := []byte{1, 2}
	NewReader(b).Bytes(2)[0] = 9
	if b[0] != 1 {
		t.Error("shared")
	}
}
