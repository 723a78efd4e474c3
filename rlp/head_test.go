package rlp_test

import (
	"testing"

	"cairn/api"
	"cairn/rlp"
)

// wantHead holds Head against a piece.
func wantHead(t *testing.T, b []byte, should api.Piece) {
	t.Helper()
	if p, e := rlp.Head(b); e != api.OK || p != should {
		t.Errorf("Head of %s: %v, %d; not %v", clip(b), p, e, should)
	}
}

// wantNoHead asks Head, and Decode, for an error.
func wantNoHead(t *testing.T, b []byte, should api.Errno) {
	t.Helper()
	if p, e := rlp.Head(b); e != should || p != (api.Piece{}) {
		t.Errorf("Head of %s: %v, %d; not %d", clip(b), p, e, should)
	}
	wantRefused(t, b, should)
}

// P4.2: where the payload begins and ends, with nothing and with something behind it.
func TestHead(t *testing.T) {
	for _, c := range []struct {
		head  string
		long  int
		piece api.Piece
	}{
		{"00", 0, api.Piece{To: 1}}, {"01", 0, api.Piece{To: 1}}, {"7f", 0, api.Piece{To: 1}},
		{"80", 0, api.Piece{From: 1, To: 1}}, {"81", 1, api.Piece{From: 1, To: 2}}, {"82", 2, api.Piece{From: 1, To: 3}},
		{"b7", 55, api.Piece{From: 1, To: 56}}, {"b838", 56, api.Piece{From: 2, To: 58}}, {"b8ff", 255, api.Piece{From: 2, To: 257}},
		{"b90100", 256, api.Piece{From: 3, To: 259}}, {"b9ffff", 65535, api.Piece{From: 3, To: 65538}},
		{"ba010000", 65536, api.Piece{From: 4, To: 65540}}, {"bb01000000", 1 << 24, api.Piece{From: 5, To: 1<<24 + 5}},
		{"c0", 0, api.Piece{List: 1, From: 1, To: 1}}, {"c1", 1, api.Piece{List: 1, From: 1, To: 2}},
		{"f7", 55, api.Piece{List: 1, From: 1, To: 56}}, {"f838", 56, api.Piece{List: 1, From: 2, To: 58}},
		{"f8ff", 255, api.Piece{List: 1, From: 2, To: 257}}, {"f90100", 256, api.Piece{List: 1, From: 3, To: 259}},
		{"fa010000", 65536, api.Piece{List: 1, From: 4, To: 65540}}, {"fb01000000", 1 << 24, api.Piece{List: 1, From: 5, To: 1<<24 + 5}},
	} {
		b := join(fromHex(t, c.head), run(c.long))
		wantHead(t, b, c.piece)
		wantHead(t, append(b, 0), c.piece)
		wantHead(t, append(b, run(70)...), c.piece)
	}
}

// P4.2: a list's payload is not looked at.
func TestHeadOfAnyPayload(t *testing.T) {
	wantHead(t, []byte{0xc1, 5}, api.Piece{List: 1, From: 1, To: 2})
	wantHead(t, []byte{0xc1, 0x83}, api.Piece{List: 1, From: 1, To: 2})
	wantHead(t, []byte{0xc2, 0x81, 5}, api.Piece{List: 1, From: 1, To: 3})
	wantHead(t, []byte{0xc2, 0xb8, 5}, api.Piece{List: 1, From: 1, To: 3})
}

// P4.2: b ends within the first byte's form, the length's bytes, or the payload.
func TestHeadIsShort(t *testing.T) {
	wantNoHead(t, nil, api.ErrShort)
	for _, s := range []string{
		"81", "82", "82 64", "b7", "c1", "c2 01", "f7", "b8", "b9", "b9 01", "ba 01 00", "bf", "bf 01 01", "bf 01 01 01 01 01 01 01",
		"f8", "f9 01", "ff", "ff 01 01 01 01 01 01 01", "b8 38", "b8 ff 00", "b9 01 00", "f8 38", "f9 01 00 c0", "ba 01 00 00",
	} {
		wantNoHead(t, fromHex(t, s), api.ErrShort)
	}
	for _, c := range []struct {
		head string
		long int
	}{{"b7", 54}, {"b838", 55}, {"b8ff", 254}, {"b90100", 255}, {"ba010000", 65535}, {"f7", 54}, {"f838", 55}, {"f90100", 255}} {
		wantNoHead(t, join(fromHex(t, c.head), run(c.long)), api.ErrShort)
	}
}

// P4.2: there is a shorter form.
func TestHeadHasAShorterForm(t *testing.T) {
	for b := range 256 {
		if b < 128 {
			wantNoHead(t, []byte{0x81, byte(b)}, api.ErrForm)
			wantNoHead(t, []byte{0x81, byte(b), 0x80}, api.ErrForm)
		} else {
			wantHead(t, []byte{0x81, byte(b)}, api.Piece{From: 1, To: 2})
		}
		wantHead(t, []byte{0xc1, byte(b)}, api.Piece{List: 1, From: 1, To: 2})
		wantHead(t, []byte{0x82, byte(b), 0}, api.Piece{From: 1, To: 3})
	}
	for _, first := range []byte{0xb7, 0xf7} {
		for n := range 56 {
			wantNoHead(t, join([]byte{first + 1, byte(n)}, run(n)), api.ErrForm)
			wantNoHead(t, join([]byte{first + 1, byte(n)}, run(100)), api.ErrForm)
			wantNoHead(t, join([]byte{first + 2, 0, byte(n)}, run(n)), api.ErrForm)
		}
		for k := 2; k <= 8; k++ {
			digits := make([]byte, k)
			wantNoHead(t, join([]byte{first + byte(k)}, digits, run(100)), api.ErrForm)
			digits[k-1] = 56
			wantNoHead(t, join([]byte{first + byte(k)}, digits, run(56)), api.ErrForm)
			digits[1], digits[k-1] = 1, 1
			wantNoHead(t, join([]byte{first + byte(k)}, digits, run(600)), api.ErrForm)
		}
	}
}

// P4.2: a length of 2^40 is a payload that is not there, one above it no length.
func TestHeadOfAGreatLength(t *testing.T) {
	for _, first := range []string{"b", "f"} {
		for _, s := range []string{
			"c ff ff ff ff ff", "c 80 00 00 00 00", "d 01 00 00 00 00 00", "b 7f ff ff ff", "b 80 00 00 00", "b ff ff ff ff", "c 01 00 00 00 00",
		} {
			wantNoHead(t, join(fromHex(t, first+s), run(90)), api.ErrShort)
		}
		for _, s := range []string{
			"d 01 00 00 00 00 01", "d 01 00 00 00 01 00", "d 02 00 00 00 00 00", "d ff ff ff ff ff ff", "e 01 00 00 00 00 00 00",
			"f 01 00 00 00 00 00 00 00", "f 01 00 00 00 00 00 00 38", "f 80 00 00 00 00 00 00 00", "f ff ff ff ff ff ff ff ff",
			"f ff ff ff ff ff ff ff c8", "f 01 00 00 01 00 00 00 00", "e 01 01 00 00 00 00 00",
		} {
			wantNoHead(t, join(fromHex(t, first+s), run(90)), api.ErrForm)
		}
	}
}

// P4.2: the length's bytes must be there; then its form; then the payload; then the single byte.
func TestHeadLooksInOrder(t *testing.T) {
	for _, c := range []struct {
		b      string
		should api.Errno
	}{
		{"b9 00", api.ErrShort}, {"bf 00 00 00 00 00 00 00", api.ErrShort}, {"bf ff ff ff ff ff ff ff", api.ErrShort}, {"f9 00", api.ErrShort},
		{"b9 00 38", api.ErrForm}, {"b8 05", api.ErrForm}, {"b8 00", api.ErrForm}, {"b8 37", api.ErrForm}, {"f8 37", api.ErrForm},
		{"bf 00 00 00 00 00 00 00 00", api.ErrForm}, {"bf ff ff ff ff ff ff ff ff", api.ErrForm}, {"bd 01 00 00 00 00 01", api.ErrForm},
		{"bd 01 00 00 00 00 00", api.ErrShort}, {"b8 38", api.ErrShort}, {"81", api.ErrShort}, {"81 00", api.ErrForm},
	} {
		wantNoHead(t, fromHex(t, c.b), c.should)
	}
}
