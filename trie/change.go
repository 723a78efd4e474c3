package trie

import (
	"bytes"
	"slices"

	"cairn/api"
)

// deepest is how many nibbles a key has at most, and behind how many a node lies at most.
const deepest = 2 * api.MaxTrieKey

// find answers the value in n of the key of which these nibbles are left.
func find(src Source, n node, rest []byte) ([]byte, api.Errno) {
	switch n := n.(type) {
	case leaf:
		if bytes.Equal(n.path, rest) {
			return n.value, api.OK
		}
	case extension:
		if behind, is := bytes.CutPrefix(rest, n.path); is {
			return find(src, n.kid, behind)
		}
	case branch:
		if len(rest) > 0 {
			return find(src, n.kids[rest[0]], rest[1:])
		}
		if len(n.value) > 0 {
			return n.value, api.OK
		}
	case distant:
		there, e := read(src, n.hash)
		if e != api.OK {
			return nil, e
		}
		return find(src, there, rest)
	}
	return nil, api.ErrNone
}

// put answers n with that value of the key of which these nibbles are left.
func put(src Source, n node, rest, value []byte) (node, api.Errno) {
	switch n := n.(type) {
	case leaf:
		if bytes.Equal(n.path, rest) {
			return leaf{path: rest, value: value}, api.OK
		}
		common := inCommon(n.path, rest)
		b := branch{}.withValue(n.path[common:], n.value)
		return behind(rest[:common], b.withValue(rest[common:], value)), api.OK
	case extension:
		common := inCommon(n.path, rest)
		if common == len(n.path) {
			kid, e := put(src, n.kid, rest[common:], value)
			return extension{path: n.path, kid: kid}, e
		}
		b := branch{}.withKid(n.path[common], behind(n.path[common+1:], n.kid))
		return behind(rest[:common], b.withValue(rest[common:], value)), api.OK
	case branch:
		if len(rest) == 0 {
			return n.withValue(nil, value), api.OK
		}
		kid, e := put(src, n.kids[rest[0]], rest[1:], value)
		return n.withKid(rest[0], kid), e
	case distant:
		there, e := read(src, n.hash)
		if e != api.OK {
			return nil, e
		}
		return put(src, there, rest, value)
	}
	return leaf{path: rest, value: value}, api.OK
}

// remove answers n, which lies behind that many nibbles of the key, without the key's value, and whether it had one.
func remove(src Source, n node, key []byte, at int) (node, bool, api.Errno) {
	switch n := n.(type) {
	case leaf:
		return nil, bytes.Equal(n.path, key[at:]), api.OK
	case extension:
		if !bytes.HasPrefix(key[at:], n.path) {
			return nil, false, api.OK
		}
		kid, had, e := remove(src, n.kid, key, at+len(n.path))
		return behind(n.path, kid), had, e
	case branch:
		if at == len(key) {
			return removeHere(src, n, at)
		}
		kid, had, e := remove(src, n.kids[key[at]], key, at+1)
		if !had {
			return nil, false, e
		}
		return shrunk(src, n.withKid(key[at], kid), at)
	case distant:
		there, e := read(src, n.hash)
		if e != api.OK {
			return nil, false, e
		}
		return remove(src, there, key, at)
	}
	return nil, false, api.OK
}

// removeHere answers a branch, which lies behind that many nibbles, without its value, and whether it had one.
func removeHere(src Source, b branch, at int) (node, bool, api.Errno) {
	if len(b.value) == 0 {
		return nil, false, api.OK
	}
	b.value = nil
	return shrunk(src, b, at)
}

// shrunk answers what becomes of a branch, which lies behind that many nibbles, from which something was taken; true, unless there is an
// error.
func shrunk(src Source, b branch, at int) (node, bool, api.Errno) {
	kids, last := 0, 0
	for i, kid := range b.kids {
		if kid != nil {
			kids, last = kids+1, i
		}
	}
	switch {
	case kids == 0 && len(b.value) == 0:
		return nil, true, api.OK
	case kids == 0:
		return leaf{value: b.value}, true, api.OK
	case kids > 1 || len(b.value) > 0:
		return b, true, api.OK
	}
	kid, e := alone(src, b.kids[last], at+1)
	return behind([]byte{byte(last)}, kid), e == api.OK, e
}

// alone answers the kid that is left alone in a branch, as it is to be put behind nibbles: what it is must be known then, but a branch
// that the source has is as good by its hash.
func alone(src Source, kid node, at int) (node, api.Errno) {
	if at > deepest {
		return nil, api.ErrNode
	}
	d, is := kid.(distant)
	if !is {
		return kid, api.OK
	}
	there, e := read(src, d.hash)
	if _, is := there.(branch); is {
		return d, api.OK
	}
	return there, e
}

// behind answers the pairs of n with these nibbles ahead of what is left of their keys.
func behind(path []byte, n node) node {
	if len(path) == 0 {
		return n
	}
	switch n := n.(type) {
	case nil:
		return nil
	case leaf:
		return leaf{path: slices.Concat(path, n.path), value: n.value}
	case extension:
		return extension{path: slices.Concat(path, n.path), kid: n.kid}
	}
	return extension{path: path, kid: n}
}

// withKid answers the branch with that kid at a nibble.
func (b branch) withKid(nibble byte, kid node) branch {
	b.kids[nibble] = kid
	return b
}

// withValue answers the branch with a pair of which these nibbles are left, where it has nothing that goes on with the first of them.
func (b branch) withValue(rest, value []byte) branch {
	if len(rest) == 0 {
		b.value = value
		return b
	}
	return b.withKid(rest[0], leaf{path: rest[1:], value: value})
}

// inCommon answers how many nibbles a and b begin with alike.
func inCommon(a, b []byte) int {
	n := 0
	for n < len(a) && n < len(b) && a[n] == b[n] {
		n++
	}
	return n
}
