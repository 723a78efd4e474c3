package kzg_test

import (
	"bytes"
	"testing"

	"cairn/api"
	"cairn/kzg"
)

// P2, P3: bytes are left as they are, what lies behind their length makes no difference, and the same is answered each time.
func TestBytesAreLeft(t *testing.T) {
	in := right(11)
	other := bytes.Clone(in)
	other[95] ^= 1
	for _, x := range []struct {
		b []byte
		e api.Errno
	}{{in, api.OK}, {other, api.ErrProof}, {make([]byte, 192), api.ErrVersion}} {
		long := append(bytes.Clone(x.b), 1, 2, 3, 4)
		was := bytes.Clone(long)
		for range 2 {
			wantCheck(t, "with room behind it", x.e, long[:192])
			wantCheck(t, "without", x.e, long[:192:192])
			wantCheck(t, "too long", api.ErrLong, long)
		}
		wantHash(t, long[96:144])
		wantHash(t, long[96:144:144])
		kzg.Hash(long)
		if !bytes.Equal(long, was) {
			t.Error("bytes were written into")
		}
	}
}

// P2: no two answers share memory, nor does one with the input.
func TestBytesAreNew(t *testing.T) {
	in := right(12)
	was := bytes.Clone(in)
	for range 3 {
		b, e := kzg.Check(in)
		if e != api.OK {
			t.Fatal(e)
		}
		for i := range b[:cap(b)] {
			b[:cap(b)][i] ^= 0xff
		}
		wantCheck(t, "again", api.OK, in)
	}
	if !bytes.Equal(in, was) {
		t.Error("an answer was a part of the input")
	}
}
