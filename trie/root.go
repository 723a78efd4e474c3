package trie

import (
	"cairn/api"
	"cairn/digest"
	"cairn/rlp"
)

// Root answers the root of the map of these pairs: P12.6
func Root(l []api.Pair) (api.Hash, api.Errno) {
	for _, p := range l {
		if len(p.Key) > api.MaxTrieKey || len(p.Value) > api.MaxTrieValue {
			return api.Hash{}, api.ErrLong
		}
	}
	t := New(nil, Empty())
	for _, p := range l {
		if _, e := t.Get(p.Key); e == api.OK || len(p.Value) == 0 {
			return api.Hash{}, api.ErrTrie
		}
		t.Put(p.Key, p.Value)
	}
	return t.Root()
}

// ListRoot answers the root of the map of the numbers' forms to the items of those numbers, as far as they may be values: P12.6
func ListRoot(l [][]byte) api.Hash {
	t := New(nil, Empty())
	for i, value := range l {
		if len(value) > 0 {
			t.Put(formOf(rlp.Number(uint64(i))), value) // of one that is too long an error, which changes nothing
		}
	}
	root, _ := t.Root()
	return root
}

// Secure answers the 32 bytes of a key's Keccak: P12.6
func Secure(key []byte) []byte {
	h := digest.Keccak(key)
	return h[:]
}
