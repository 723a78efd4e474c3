package rlp_test

import (
	"bytes"
	"testing"

	"cairn/api"
	"cairn/rlp"
)

// The chapter's first example.
func TestExampleEncode(t *testing.T) {
	dog, cat := rlp.Text([]byte("dog")), rlp.Text([]byte("cat"))
	wantForm(t, "dog", dog, fromHex(t, "83 64 6f 67"))
	wantForm(t, "cat, dog", rlp.List(cat, dog), fromHex(t, "c8 83 63 61 74 83 64 6f 67"))
	wantForm(t, "the empty text", rlp.Text(nil), fromHex(t, "80"))
	wantForm(t, "the empty list", rlp.List(), fromHex(t, "c0"))
	wantForm(t, "15", rlp.Number(15), fromHex(t, "0f"))
	wantForm(t, "1024", rlp.Number(1024), fromHex(t, "82 04 00"))
	wantForm(t, "56 bytes", rlp.Text(run(56)), join(fromHex(t, "b8 38"), run(56)))
}

// The chapter's second example.
func TestExampleDecode(t *testing.T) {
	wantRefused(t, fromHex(t, "81 05"), api.ErrForm)
	wantRefused(t, fromHex(t, "83 64"), api.ErrShort)
	wantRefused(t, fromHex(t, "80 80"), api.ErrRest)
	wantRefused(t, fromHex(t, "b8 05 01 02 03 04 05"), api.ErrForm)
	wantRefused(t, fromHex(t, "c2 83 61"), api.ErrShort)
}

// The chapter's third example.
func TestExampleOpen(t *testing.T) {
	if kind, b, e := rlp.Open(fromHex(t, "02 c0")); kind != 2 || !bytes.Equal(b, []byte{0xc0}) || e != api.OK {
		t.Errorf("02 c0: %d, %x, %d", kind, b, e)
	}
	if kind, b, e := rlp.Open(fromHex(t, "c0")); kind != 0 || !bytes.Equal(b, []byte{0xc0}) || e != api.OK {
		t.Errorf("c0: %d, %x, %d", kind, b, e)
	}
	if kind, b, e := rlp.Open(fromHex(t, "80")); kind != 0 || b != nil || e != api.ErrKind {
		t.Errorf("80: %d, %x, %d", kind, b, e)
	}
}
