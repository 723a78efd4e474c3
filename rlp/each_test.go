package rlp_test

import (
	"bytes"
	"testing"

	"cairn/api"
	"cairn/rlp"
)

// gone is all that Each tells of b, and checks that the numbers count from 0 on.
func gone(t *testing.T, b []byte) []api.Piece {
	t.Helper()
	var l []api.Piece
	for n, p := range rlp.Each(b) {
		if n != len(l) {
			t.Errorf("Each of %s: the number %d, not %d", clip(b), n, len(l))
		}
		l = append(l, p)
	}
	return l
}

func wantPieces(t *testing.T, s string, should ...api.Piece) {
	t.Helper()
	got := gone(t, fromHex(t, s))
	if len(got) != len(should) {
		t.Errorf("Each of %s: %v, not %v", s, got, should)
		return
	}
	for i, p := range got {
		if p != should[i] {
			t.Errorf("Each of %s: %d: %v, not %v", s, i, p, should[i])
		}
	}
}

// P4.4: pieces one behind the other, not those within lists, up to the first error.
func TestEach(t *testing.T) {
	a, text, list := api.Piece{To: 1}, api.Piece{From: 2, To: 5}, api.Piece{List: 1, From: 6, To: 8}
	wantPieces(t, "")
	wantPieces(t, "01", a)
	wantPieces(t, "01 83 61 62 63 c2 c1 05", a, text, list)
	wantPieces(t, "01 83 61 62 63 c2 c1 05 81", a, text, list)
	wantPieces(t, "01 83 61 62 63 c2 c1 05 81 05 01", a, text, list)
	wantPieces(t, "01 83 61 62 63 c2 c1 05 80 c0", a, text, list, api.Piece{From: 9, To: 9}, api.Piece{List: 1, From: 10, To: 10})
	wantPieces(t, "01 83 61 62 63 c2 c1", a, text)
	wantPieces(t, "01 83 61 62 63 c2 83 81", a, text, list)
	wantPieces(t, "81 05")
	wantPieces(t, "81")
	wantPieces(t, "b9 00 38 01")
	wantPieces(t, "00 7f 80 81 ff", api.Piece{To: 1}, api.Piece{From: 1, To: 2}, api.Piece{From: 3, To: 3}, api.Piece{From: 4, To: 5})
}

// P4.4: pieces whose lengths are told by bytes of their own.
func TestEachOfLongPieces(t *testing.T) {
	b := join([]byte{0xb8, 56}, run(56), []byte{0xf9, 1, 0}, run(256), []byte{0xc0}, []byte{0xb9, 1, 1}, run(257))
	should := []api.Piece{{From: 2, To: 58}, {List: 1, From: 61, To: 317}, {List: 1, From: 318, To: 318}, {From: 321, To: 578}}
	got := gone(t, b)
	if len(got) != len(should) {
		t.Fatal(got)
	}
	for i, p := range got {
		if p != should[i] {
			t.Errorf("%d: %v, not %v", i, p, should[i])
		}
	}
	if got := gone(t, b[:len(b)-1]); len(got) != 3 {
		t.Errorf("cut off: %v", got)
	}
}

// P4.4: it may be left, and gone over again, also while it is gone over.
func TestEachIsLeftAndGoneOverAgain(t *testing.T) {
	each := rlp.Each([]byte{1, 0x80, 0xc0})
	for stop := range 4 {
		count := 0
		for n := range each {
			if n == stop {
				break
			}
			count++
		}
		if count != min(stop, 3) {
			t.Errorf("left at %d: %d", stop, count)
		}
	}
	count := 0
	for range each {
		for range each {
			count++
		}
	}
	if count != 9 {
		t.Errorf("within one another: %d", count)
	}
}

// P2, P3: what Each tells is that of the call, whatever becomes of the bytes.
func TestEachKeepsNothing(t *testing.T) {
	b := []byte{1, 0x82, 0x61, 0x62, 0xc0}
	each := rlp.Each(b)
	clear(b)
	var l []api.Piece
	for _, p := range each {
		l = append(l, p)
	}
	if len(l) != 3 || l[1] != (api.Piece{From: 2, To: 4}) || l[2] != (api.Piece{List: 1, From: 5, To: 5}) {
		t.Errorf("%v", l)
	}
	c := []byte{0x82, 0x61, 0x62, 5}
	count := 0
	for range rlp.Each(c) {
		c[3] = 0x83
		count++
	}
	if count != 2 {
		t.Errorf("changed meanwhile: %d", count)
	}
}

// P4.12: the pieces of a list's payload are its kids' forms, without a gap.
func TestPiecesAreKids(t *testing.T) {
	s := source{at: 44}
	for i := range 3000 {
		x := group()
		for range s.below(8) {
			x.Kids = append(x.Kids, s.item(3))
		}
		b, _ := rlp.Encode(x)
		head, e := rlp.Head(b)
		if e != api.OK || head.List != 1 || head.To != len(b) {
			t.Fatalf("item %d: %v, %d", i, head, e)
		}
		payload := b[head.From:head.To]
		at, count := 0, 0
		for n, p := range rlp.Each(payload) {
			kid := x.Kids[n]
			form, _ := rlp.Encode(kid)
			if !bytes.Equal(payload[at:p.To], form) || p.List != kid.List || p.From < at || p.From > p.To {
				t.Fatalf("item %d, kid %d: %v", i, n, p)
			}
			if kid.List == 0 && !bytes.Equal(payload[p.From:p.To], kid.Bytes) {
				t.Fatalf("item %d, kid %d: another text", i, n)
			}
			at = p.To
			count++
		}
		if at != len(payload) || count != len(x.Kids) {
			t.Fatalf("item %d: %d of %d kids", i, count, len(x.Kids))
		}
	}
}
