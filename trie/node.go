package trie

import (
	"cairn/api"
	"cairn/rlp"
)

const (
	fanOut    = 16 // kids of a branch
	hashBytes = 32 // a node whose form has fewer bytes stands itself where others are told by hash
)

// node is the pairs that are left behind some nibbles of their keys, as one of the kinds below, or nil where there are none. Nothing
// writes into a node that is made: a changed one is another one.
type node interface{ isNode() }

// leaf is one pair: the nibbles that are left of its key, and its value.
type leaf struct{ path, value []byte }

// extension is pairs whose keys go on with the same nibbles.
type extension struct {
	path []byte
	kid  node
}

// branch is pairs by the next nibble of their keys, and the value of the one whose key ends here (empty: there is none).
type branch struct {
	kids  [fanOut]node
	value []byte
}

// distant is a node that its source has, by its hash.
type distant struct{ hash api.Hash }

func (leaf) isNode()      {}
func (extension) isNode() {}
func (branch) isNode()    {}
func (distant) isNode()   {}

// read answers the node that a source tells by a hash: P12.3. It is not a distant one.
func read(src Source, h api.Hash) (node, api.Errno) {
	b, e := ask(src, h)
	if e != api.OK {
		return nil, api.ErrMissing
	}
	x, e := rlp.Decode(b)
	if e != api.OK {
		return nil, api.ErrNode
	}
	n := nodeOf(x)
	if n == nil {
		return nil, api.ErrNode
	}
	return n, api.OK
}

// nodeOf answers the node that an item is, nil if it is none.
func nodeOf(x api.Item) node {
	switch {
	case x.List == 1 && len(x.Kids) == 2:
		return pathOf(x.Kids[0], x.Kids[1])
	case x.List == 1 && len(x.Kids) == fanOut+1:
		return branchOf(x.Kids)
	}
	return nil
}

// pathOf answers the leaf or the extension of two items, nil if they are neither.
func pathOf(prefix, rest api.Item) node {
	path, isLeaf, e := Unprefix(prefix.Bytes) // of a list there are no bytes, which are no prefix
	switch {
	case e != api.OK:
		return nil
	case isLeaf && rest.List == 0 && len(rest.Bytes) > 0:
		return leaf{path: path, value: rest.Bytes}
	case isLeaf || len(path) == 0:
		return nil
	}
	kid := kidOf(rest)
	if kid == nil {
		return nil
	}
	return extension{path: path, kid: kid}
}

// branchOf answers the branch of seventeen items, nil if they are none.
func branchOf(l []api.Item) node {
	if l[fanOut].List != 0 {
		return nil
	}
	b := branch{value: l[fanOut].Bytes}
	for i, x := range l[:fanOut] {
		if x.List == 0 && len(x.Bytes) == 0 {
			continue
		}
		b.kids[i] = kidOf(x)
		if b.kids[i] == nil {
			return nil
		}
	}
	return b
}

// kidOf answers the node that an item refers to, nil if it refers to none.
func kidOf(x api.Item) node {
	if x.List == 0 {
		if len(x.Bytes) != hashBytes {
			return nil
		}
		return distant{hash: api.Hash(x.Bytes)}
	}
	if n, e := rlp.Size(x); e != api.OK || n >= hashBytes {
		return nil
	}
	return nodeOf(x)
}
