package trie_test

import (
	"testing"

	"cairn/api"
	"cairn/trie"
)

// The chapter's examples.

func TestExample1(t *testing.T) {
	wantBytes(t, "an extension's", trie.Prefix([]byte{1, 2, 3, 4, 5}, false), "11 23 45")
	wantBytes(t, "a leaf's", trie.Prefix([]byte{0, 15, 1, 12, 11, 8}, true), "20 0f 1c b8")
	l, leaf, e := trie.Unprefix([]byte{0x40})
	wantErrno(t, "Unprefix", e, api.ErrNibble)
	if len(l) > 0 || leaf {
		t.Errorf("beside an error: %x, %v", l, leaf)
	}
}

func TestExample2(t *testing.T) {
	h, e := trie.Root([]api.Pair{pair("do", "verb"), pair("dog", "puppy"), pair("doge", "coin"), pair("horse", "stallion")})
	wantErrno(t, "Root", e, api.OK)
	wantBytes(t, "Root", h[:], "5991bb8c6514148a29db676a14ac506cd2cd5775ace63c30a4fe457715e9ac84")
}

func TestExample3(t *testing.T) {
	h, e := trie.Root([]api.Pair{pair("a", "b")})
	wantErrno(t, "Root", e, api.OK)
	want := hashOf([]byte{0xc4, 0x82, 0x20, 0x61, 'b'})
	wantBytes(t, "Root", h[:], hexOf(want))
	x := trie.New(nil, trie.Empty())
	must(t, x.Put([]byte("a"), []byte("b")))
	wantRoot(t, "one pair", x, want)
	must(t, x.Delete([]byte("a")))
	wantRoot(t, "the only key deleted", x, trie.Empty())
}
