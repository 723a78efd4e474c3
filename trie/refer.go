package trie

import (
	"cairn/api"
	"cairn/digest"
	"cairn/rlp"
)

// Empty answers the root of the empty map: 12.1
func Empty() api.Hash { return digest.Keccak(formOf(api.Item{})) }

// rootOf answers the root of the map whose node behind no nibbles n is, and hands on all nodes of it that are told by hash, but those
// that the source has.
func rootOf(n node, tell func(api.Node)) api.Hash {
	switch n := n.(type) {
	case nil:
		return Empty()
	case distant:
		return n.hash
	}
	return sealed(formOf(itemOf(n, tell)), tell)
}

// sealed answers the hash by which a node of that form is told, and hands it on.
func sealed(form []byte, tell func(api.Node)) api.Hash {
	h := digest.Keccak(form)
	tell(api.Node{Hash: h, Bytes: form})
	return h
}

// refersTo answers what refers to a node, and hands it on, if it is told by hash, and those below it.
func refersTo(n node, tell func(api.Node)) api.Item {
	switch n := n.(type) {
	case nil:
		return api.Item{}
	case distant:
		return text(n.hash[:])
	}
	x := itemOf(n, tell)
	form := formOf(x)
	if len(form) < hashBytes {
		return x
	}
	h := sealed(form, tell)
	return text(h[:])
}

// itemOf answers the item that a node is which is there, and hands on those below it.
func itemOf(n node, tell func(api.Node)) api.Item {
	switch n := n.(type) {
	case leaf:
		return list(text(Prefix(n.path, true)), text(n.value))
	case extension:
		return list(text(Prefix(n.path, false)), refersTo(n.kid, tell))
	case branch:
		var kids []api.Item
		for _, kid := range n.kids {
			kids = append(kids, refersTo(kid, tell))
		}
		return list(append(kids, text(n.value))...)
	}
	return api.Item{}
}

// text and list make items that are but read, so that nothing of them need be copied.
func text(b []byte) api.Item { return api.Item{Bytes: b} }

func list(kids ...api.Item) api.Item { return api.Item{List: 1, Kids: kids} }

// formOf answers the form of an item of this package, which may always be: lists stand within one another only where they are short.
func formOf(x api.Item) []byte {
	form, _ := rlp.Encode(x)
	return form
}
