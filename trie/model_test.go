package trie_test

import (
	"strings"

	"cairn/api"
	"cairn/digest"
	"cairn/rlp"
)

// The chapter's words, taken as they stand, however slow.

// nibblesOf are a key's nibbles, as a text.
func nibblesOf(key string) string {
	var l []byte
	for i := range len(key) {
		l = append(l, key[i]/16, key[i]%16)
	}
	return string(l)
}

// prefixOf is P12.1
func prefixOf(nibbles []byte, leaf bool) []byte {
	f := 0
	if leaf {
		f = 2
	}
	first, rest := 16*f, nibbles
	if len(nibbles)%2 == 1 {
		first, rest = 16*(f+1)+int(nibbles[0]%16), nibbles[1:]
	}
	b := []byte{byte(first)}
	for i := 0; i < len(rest); i += 2 {
		b = append(b, 16*(rest[i]%16)+rest[i+1]%16)
	}
	return b
}

// keyed are pairs by their keys' nibbles.
type keyed map[string]string

func (h has) keyed() keyed {
	k := keyed{}
	for key, value := range h {
		k[nibblesOf(key)] = value
	}
	return k
}

// alike is what all keys begin with behind i nibbles, the most there is.
func (k keyed) alike(i int) string {
	first := true
	var common string
	for key := range k {
		if first {
			common, first = key[i:], false
		}
		for !strings.HasPrefix(key[i:], common) {
			common = common[:len(common)-1]
		}
	}
	return common
}

// going are the pairs whose keys have that nibble behind i nibbles.
func (k keyed) going(i int, nibble byte) keyed {
	sub := keyed{}
	for key, value := range k {
		if len(key) > i && key[i] == nibble {
			sub[key] = value
		}
	}
	return sub
}

// item is the node of pairs behind i nibbles of their keys: section 12.1. It puts the nodes that are told by hash into told.
func (k keyed) item(i int, told map[api.Hash][]byte) api.Item {
	common := k.alike(i)
	if len(k) == 1 {
		return list(text(string(prefixOf([]byte(common), true))), text(k.only()))
	}
	if len(common) > 0 {
		return list(text(string(prefixOf([]byte(common), false))), k.refers(i+len(common), told))
	}
	var kids []api.Item
	for nibble := range 16 {
		kids = append(kids, k.going(i, byte(nibble)).refers(i+1, told))
	}
	value := ""
	for key, v := range k {
		if len(key) == i {
			value = v
		}
	}
	return list(append(kids, text(value))...)
}

// only is the value of the only pair.
func (k keyed) only() string {
	for _, value := range k {
		return value
	}
	return ""
}

// refers is what refers to the node of pairs behind i nibbles.
func (k keyed) refers(i int, told map[api.Hash][]byte) api.Item {
	if len(k) == 0 {
		return text("")
	}
	x := k.item(i, told)
	b := form(x)
	if len(b) < 32 {
		return x
	}
	h := digest.Keccak(b)
	told[h] = b
	return text(string(h[:]))
}

// rootOf is a map's root.
func rootOf(h has) api.Hash {
	if len(h) == 0 {
		return digest.Keccak([]byte{0x80})
	}
	return digest.Keccak(form(h.keyed().item(0, map[api.Hash][]byte{})))
}

// nodesOf are a map's nodes that are told by hash, and the root's.
func nodesOf(h has) map[api.Hash][]byte {
	told := map[api.Hash][]byte{}
	if len(h) > 0 {
		b := form(h.keyed().item(0, told))
		told[digest.Keccak(b)] = b
	}
	return told
}

// hashOf is the hash of the node of pairs behind i nibbles, if it is told by hash.
func (k keyed) hashOf(i int) []api.Hash {
	x := k.refers(i, map[api.Hash][]byte{})
	if i == 0 && len(k) > 0 {
		return []api.Hash{digest.Keccak(form(k.item(0, map[api.Hash][]byte{})))}
	}
	if x.List == 0 && len(x.Bytes) == 32 {
		return []api.Hash{api.Hash(x.Bytes)}
	}
	return nil
}

// way are the hashes of the nodes on a key's way from the root down that are told by hash; and of the node that would be left alone in a
// branch without that key's pair, if the map has it, and if that one is told by hash.
func (h has) way(key string) (way, alone []api.Hash) {
	path := nibblesOf(key)
	_, is := h[key]
	k := h.keyed()
	for i := 0; len(k) > 0; {
		way = append(way, k.hashOf(i)...)
		if len(k) == 1 {
			break
		}
		common := k.alike(i)
		if !strings.HasPrefix(path[i:], common) {
			break
		}
		i += len(common)
		if common != "" {
			way = append(way, k.hashOf(i)...)
		}
		if is {
			alone = k.leftAlone(i, path)
		}
		if i == len(path) {
			break
		}
		k = k.going(i, path[i])
		i++
	}
	return way, alone
}

// leftAlone is the hash of the kid that a branch behind i nibbles would have alone without that key, if it would have no value.
func (k keyed) leftAlone(i int, path string) []api.Hash {
	rest := keyed{}
	for key, value := range k {
		if key != path {
			rest[key] = value
		}
	}
	for key := range rest {
		if len(key) == i {
			return nil
		}
		if sub := rest.going(i, key[i]); len(sub) == len(rest) {
			return sub.hashOf(i + 1)
		}
		return nil
	}
	return nil
}

// isNode is P12.3 of an item: whether it is a node.
func isNode(x api.Item) bool {
	if x.List != 1 {
		return false
	}
	if len(x.Kids) == 17 {
		for _, kid := range x.Kids[:16] {
			if !(kid.List == 0 && len(kid.Bytes) == 0) && !isReference(kid) {
				return false
			}
		}
		return x.Kids[16].List == 0
	}
	if len(x.Kids) != 2 || x.Kids[0].List != 0 || len(x.Kids[0].Bytes) == 0 {
		return false
	}
	first := x.Kids[0].Bytes[0]
	flags := first / 16
	if flags > 3 || flags%2 == 0 && first%16 != 0 {
		return false
	}
	if flags >= 2 {
		return x.Kids[1].List == 0 && len(x.Kids[1].Bytes) > 0
	}
	if flags == 0 && len(x.Kids[0].Bytes) == 1 {
		return false
	}
	return isReference(x.Kids[1])
}

// isReference is P12.3 of an item: whether it is a reference.
func isReference(x api.Item) bool {
	if x.List == 0 {
		return len(x.Bytes) == 32
	}
	return isNode(x) && len(form(x)) < 32
}

// isNodes says whether bytes are a node's form.
func isNodes(b []byte) bool {
	x, e := rlp.Decode(b)
	return e == api.OK && isNode(x)
}
