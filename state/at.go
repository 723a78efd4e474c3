package state

import (
	"bytes"

	"cairn/api"
	"cairn/rlp"
	"cairn/trie"
)

// rooted is a base: the accounts of a state's trie.
type rooted struct {
	src  trie.Source
	root api.Hash
}

// At answers a base that tells the accounts of the state's trie of that root: P13.11
func At(src trie.Source, root api.Hash) Base { return &rooted{src: src, root: root} }

// Account: P13.11
func (r *rooted) Account(a api.Address) (api.Account, bool) {
	x, e := r.find(a)
	if e != api.OK {
		return api.Account{}, false
	}
	return api.Account{Address: a, Nonce: x.nonce, Balance: x.balance, Code: codeOf(r.src, x.code)}, true
}

// Slot: P13.11
func (r *rooted) Slot(a api.Address, key api.Word) api.Word {
	x, e := r.find(a)
	if e != api.OK {
		return api.Word{}
	}
	b, e := trie.New(r.src, x.storage).Get(slotKey(key))
	if e != api.OK {
		return api.Word{}
	}
	item, e := rlp.Decode(b)
	if e != api.OK {
		return api.Word{}
	}
	value, _ := rlp.AsWhole(item) // with an error it is 0
	return value
}

func (r *rooted) find(a api.Address) (record, api.Errno) { return find(trie.New(r.src, r.root), a) }

// codeOf answers the code of that Keccak, nothing where a source doesn't tell it. The source is somebody else's: if there is none, or it
// panics, it tells nothing, so that no call of this package does.
func codeOf(src trie.Source, h api.Hash) (code []byte) {
	defer func() {
		if recover() != nil {
			code = nil
		}
	}()
	if h == noCode() {
		return nil
	}
	b, e := src.Node(h)
	if e != api.OK {
		return nil
	}
	return bytes.Clone(b)
}
