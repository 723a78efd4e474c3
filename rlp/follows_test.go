package rlp_test

import (
	"bytes"
	"slices"
	"testing"

	"cairn/api"
	"cairn/rlp"
)

// P4.9: from any item there and back.
func TestThereAndBack(t *testing.T) {
	s := source{at: 47}
	for i := range 5000 {
		x := s.item(7)
		b, e := rlp.Encode(x)
		if e != api.OK {
			t.Fatalf("item %d: Encode: %d", i, e)
		}
		if y, e := rlp.Decode(b); e != api.OK || !rlp.Same(x, y) {
			t.Fatalf("item %d: Decode: %d", i, e)
		}
	}
}

// P4.9: what Decode takes Encode makes, of any bytes.
func TestBackAndThere(t *testing.T) {
	s := source{at: 48}
	first := []byte{0, 5, 0x7f, 0x80, 0x81, 0x82, 0x83, 0xb7, 0xb8, 0xb9, 0xc0, 0xc1, 0xc2, 0xc3, 0xc5, 0xc8, 0xf7, 0xf8, 0xf9}
	taken := 0
	for range 300000 {
		b := make([]byte, s.below(9)+1)
		for i := range b {
			b[i] = first[s.below(len(first))]
		}
		x, e := rlp.Decode(b)
		if e != api.OK {
			continue
		}
		taken++
		if again, e := rlp.Encode(x); e != api.OK || !bytes.Equal(again, b) {
			t.Fatalf("%x: %x, %d", b, again, e)
		}
	}
	if taken < 10000 {
		t.Errorf("%d taken alone", taken)
	}
}

// manyItems are items that are not Same, two and two.
func manyItems() []api.Item {
	var l []api.Item
	for _, n := range []int{0, 2, 3, 54, 55, 56, 57, 255, 256, 257, 65536} {
		l = append(l, api.Item{Bytes: make([]byte, n)}, api.Item{Bytes: run(max(n, 1))})
		kids := make([]api.Item, n)
		l = append(l, group(kids...), group(api.Item{Bytes: run(n)}))
	}
	l = append(l, variants()...)
	for b := range 256 {
		l = append(l, api.Item{Bytes: []byte{byte(b)}}, group(api.Item{Bytes: []byte{byte(b)}}), api.Item{Bytes: []byte{1, byte(b)}})
	}
	s := source{at: 49}
	for range 300 {
		l = append(l, s.item(3))
	}
	var own []api.Item
	for _, x := range l {
		may := whyNot(x, 0) == api.OK
		if may && !slices.ContainsFunc(own, func(y api.Item) bool { return alike(x, y) }) {
			own = append(own, x)
		}
	}
	return own
}

// P4.10: no form begins with another item's.
func TestOneForm(t *testing.T) {
	items := manyItems()
	forms := make([][]byte, len(items))
	for i, x := range items {
		forms[i], _ = rlp.Encode(x)
	}
	for i, a := range forms {
		for j, b := range forms {
			if i != j && bytes.HasPrefix(a, b) {
				t.Errorf("%s begins with %s", clip(a), clip(b))
			}
		}
	}
	if len(items) < 900 {
		t.Errorf("%d items alone", len(items))
	}
}

// P4.11: cut off at every place, and with bytes behind.
func TestCutOff(t *testing.T) {
	items := []api.Item{nest(64, words("a")), nest(63, group()), nest(40, api.Item{Bytes: run(300)}), {Bytes: run(60000)}}
	for _, x := range manyItems() {
		if n, _ := rlp.Size(x); n < 2000 {
			items = append(items, x)
		}
	}
	for _, x := range items {
		b, _ := rlp.Encode(x)
		for n := range b {
			wantRefused(t, b[:n], api.ErrShort)
		}
		for _, more := range [][]byte{{0}, {0x80}, {0x81}, {0xc0}, {0xff}, b, run(100)} {
			wantRefused(t, join(b, more), api.ErrRest)
		}
	}
}
