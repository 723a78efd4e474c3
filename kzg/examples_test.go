package kzg_test

import (
	"testing"

	"cairn/api"
	"cairn/kzg"
)

// The chapter's example.
func TestExample(t *testing.T) {
	wantCheck(t, "noughts", api.ErrVersion, make([]byte, 192))
	nought := append([]byte{0xc0}, make([]byte, 47)...)
	h, e := kzg.Hash(nought)
	if e != api.OK {
		t.Fatal(e)
	}
	f := source{at: 13}
	for range 10 {
		in := input(f.scalar(), whole(0), nought, nought)
		copy(in, h[:])
		wantCheck(t, "any z, y = 0", api.OK, in)
		in[95] = 1
		wantCheck(t, "any z, y = 1", api.ErrProof, in)
	}
}
