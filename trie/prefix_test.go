package trie_test

import (
	"bytes"
	"slices"
	"testing"

	"cairn/api"
	"cairn/trie"
)

// allNibbles goes over all lists of at most so many nibbles.
func allNibbles(most int) [][]byte {
	lists := [][]byte{nil}
	for at := 0; at < len(lists); at++ {
		if len(lists[at]) == most {
			continue
		}
		for n := range 16 {
			lists = append(lists, append(slices.Clone(lists[at]), byte(n)))
		}
	}
	return lists
}

func TestNibbles(t *testing.T) { // 12.1
	wantBytes(t, "none", trie.Nibbles(nil), "")
	wantBytes(t, "empty", trie.Nibbles([]byte{}), "")
	wantBytes(t, "three", trie.Nibbles([]byte{0x00, 0xf1, 0x2e}), "00 00 0f 01 02 0e")
	for b := range 256 {
		if l := trie.Nibbles([]byte{byte(b)}); !bytes.Equal(l, []byte{byte(b / 16), byte(b % 16)}) {
			t.Errorf("%x: %x", b, l)
		}
	}
}

func TestPrefix(t *testing.T) { // P12.1
	for _, c := range []struct {
		nibbles []byte
		leaf    bool
		want    string
	}{
		{nil, false, "00"},
		{nil, true, "20"},
		{[]byte{}, true, "20"},
		{[]byte{0}, false, "10"},
		{[]byte{0}, true, "30"},
		{[]byte{15}, false, "1f"},
		{[]byte{15}, true, "3f"},
		{[]byte{0, 0}, false, "00 00"},
		{[]byte{1, 2}, true, "20 12"},
		{[]byte{1, 2, 3}, false, "11 23"},
		{[]byte{1, 2, 3}, true, "31 23"},
		{[]byte{0xf1, 0x82, 0x13}, true, "31 23"}, // of each the low four bits count
		{[]byte{0xf1, 0x82}, false, "00 12"},
		{[]byte{0x10}, false, "10"},
		{[]byte{0xff}, true, "3f"},
		{[]byte{16, 17, 32, 255}, true, "20 01 0f"},
	} {
		wantBytes(t, "Prefix", trie.Prefix(c.nibbles, c.leaf), c.want)
	}
	for _, l := range allNibbles(3) {
		for _, leaf := range []bool{false, true} {
			if b := trie.Prefix(l, leaf); !bytes.Equal(b, prefixOf(l, leaf)) {
				t.Errorf("%x, %v: %x", l, leaf, b)
			}
		}
	}
}

func TestUnprefix(t *testing.T) { // P12.1
	wantNone := func(b []byte) {
		t.Helper()
		if l, leaf, e := trie.Unprefix(b); e != api.ErrNibble || len(l) > 0 || leaf {
			t.Errorf("Unprefix of %x: %x, %v, %d", b, l, leaf, e)
		}
	}
	wantNone(nil)
	wantNone([]byte{})
	for first := range 256 {
		for _, rest := range [][]byte{nil, {0x00}, {0x12, 0xff, 0x40}} {
			b := append([]byte{byte(first)}, rest...)
			high, low := first/16, first%16
			if high > 3 || high%2 == 0 && low != 0 {
				wantNone(b)
				continue
			}
			want := trie.Nibbles(rest)
			if high%2 == 1 {
				want = append([]byte{byte(low)}, want...)
			}
			if l, leaf, e := trie.Unprefix(b); e != api.OK || leaf != (high >= 2) || !bytes.Equal(l, want) {
				t.Errorf("Unprefix of %x: %x, %v, %d", b, l, leaf, e)
			}
		}
	}
}

func TestUnprefixUndoesPrefix(t *testing.T) { // P12.11
	lists := allNibbles(3)
	r := row(1)
	for long := range 300 {
		l := make([]byte, long)
		for i := range l {
			l[i] = byte(r.below(16))
		}
		lists = append(lists, l)
	}
	for _, l := range lists {
		for _, leaf := range []bool{false, true} {
			got, is, e := trie.Unprefix(trie.Prefix(l, leaf))
			if e != api.OK || is != leaf || !bytes.Equal(got, l) {
				t.Errorf("%x, %v: %x, %v, %d", l, leaf, got, is, e)
			}
		}
	}
}

func TestPrefixIsUnlike(t *testing.T) { // P12.11
	seen := map[string]int{}
	for i, l := range allNibbles(4) {
		for j, leaf := range []bool{false, true} {
			b := string(trie.Prefix(l, leaf))
			if other, is := seen[b]; is {
				t.Errorf("%x, %v and number %d have one prefix: %x", l, leaf, other, b)
			}
			seen[b] = 2*i + j
		}
	}
}
