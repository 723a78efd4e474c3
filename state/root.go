package state

import (
	"cairn/api"
	"cairn/digest"
	"cairn/rlp"
	"cairn/trie"
)

// builder lays changes into the state's trie.
type builder struct {
	src      trie.Source
	accounts *trie.Trie
	nodes    table[api.Hash, []byte] // those that are new
}

// Root answers the root that changes lead to, and the nodes that are new: P13.11
func Root(src trie.Source, root api.Hash, l []api.Change) (api.Hash, []api.Node, api.Errno) {
	b := builder{src: src, accounts: trie.New(src, root), nodes: table[api.Hash, []byte]{}}
	for _, c := range Merge(l, nil) {
		if e := b.lay(c); e != api.OK {
			return api.Hash{}, nil, e
		}
	}
	changed, e := b.seal(b.accounts)
	if e != api.OK {
		return api.Hash{}, nil, e
	}
	var nodes []api.Node
	for h, form := range b.nodes.inOrder(byHash) {
		nodes = append(nodes, api.Node{Hash: h, Bytes: form})
	}
	return changed, nodes, api.OK
}

// seal answers the root of a trie, and takes its nodes that are new.
func (b builder) seal(t *trie.Trie) (api.Hash, api.Errno) {
	l, e := t.Nodes()
	if e != api.OK {
		return api.Hash{}, e
	}
	for _, n := range l {
		b.nodes[n.Hash] = n.Bytes
	}
	return t.Root()
}

// lay lays one account's change into the trie.
func (b builder) lay(c api.Change) api.Errno {
	key := trie.Secure(c.Address[:])
	if c.Gone {
		return b.accounts.Delete(key)
	}
	storage, e := b.storage(c)
	if e != api.OK {
		return e
	}
	r := record{nonce: c.Nonce, balance: c.Balance, storage: storage, code: digest.Keccak(c.Code)}
	return b.accounts.Put(key, r.form())
}

// storage answers the root of an account's storage trie behind its change.
func (b builder) storage(c api.Change) (api.Hash, api.Errno) {
	root, e := b.oldStorage(c)
	if e != api.OK || len(c.Slots) == 0 {
		return root, e
	}
	t := trie.New(b.src, root)
	for _, slot := range c.Slots {
		if e := laySlot(t, slot); e != api.OK {
			return api.Hash{}, e
		}
	}
	return b.seal(t)
}

// oldStorage answers the root of the storage trie that a change's Slots go into.
func (b builder) oldStorage(c api.Change) (api.Hash, api.Errno) {
	if c.Wiped {
		return trie.Empty(), api.OK
	}
	r, e := find(b.accounts, c.Address)
	if e == api.ErrNone {
		return trie.Empty(), api.OK
	}
	return r.storage, e
}

// laySlot lays a slot into its storage trie.
func laySlot(t *trie.Trie, slot api.Slot) api.Errno {
	if slot.Value == (api.Word{}) {
		return t.Delete(slotKey(slot.Key))
	}
	return t.Put(slotKey(slot.Key), formOf(rlp.Whole(slot.Value)))
}
