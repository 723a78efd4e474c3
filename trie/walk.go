package trie

import (
	"bytes"
	"iter"
	"slices"

	"cairn/api"
)

// place is where a walk comes to a node that its source has.
type place struct {
	hash  api.Hash
	depth int
}

// walk goes over the pairs of a map from the front.
type walk struct {
	src    Source
	yield  func(api.Pair, api.Errno) bool
	told   int                // pairs so far
	barren map[place]struct{} // nodes below which there was no pair
}

// pairs tells all pairs below n, by their keys' bytes, and ends with the error of the first node that can't be read.
func pairs(src Source, n node) iter.Seq2[api.Pair, api.Errno] {
	return func(yield func(api.Pair, api.Errno) bool) {
		w := walk{src: src, yield: yield, barren: map[place]struct{}{}}
		w.below(n, nil)
	}
}

// below tells the pairs of n, which lies behind these nibbles; false, if the walk is at its end.
func (w *walk) below(n node, path []byte) bool {
	if n != nil && len(path) > deepest {
		return w.fail(api.ErrNode)
	}
	switch n := n.(type) {
	case leaf:
		return w.pair(slices.Concat(path, n.path), n.value)
	case extension:
		return w.below(n.kid, slices.Concat(path, n.path))
	case branch:
		if len(n.value) > 0 && !w.pair(path, n.value) {
			return false
		}
		for i, kid := range n.kids {
			if !w.below(kid, slices.Concat(path, []byte{byte(i)})) {
				return false
			}
		}
	case distant:
		return w.fetched(n.hash, path)
	}
	return true
}

// fetched tells the pairs of a node that the source has. Where a source lies there may be nodes below which there is no pair: each is
// gone through once in a depth, else few of them could make a walk that nobody sees the end of.
func (w *walk) fetched(h api.Hash, path []byte) bool {
	here, told := place{hash: h, depth: len(path)}, w.told
	if _, is := w.barren[here]; is {
		return true
	}
	n, e := read(w.src, h)
	if e != api.OK {
		return w.fail(e)
	}
	if !w.below(n, path) {
		return false
	}
	if w.told == told {
		w.barren[here] = struct{}{}
	}
	return true
}

// pair tells a pair, if its nibbles are a key's.
func (w *walk) pair(path, value []byte) bool {
	if len(path)%2 != 0 || len(path) > deepest {
		return w.fail(api.ErrNode)
	}
	w.told++
	return w.yield(api.Pair{Key: packed(path), Value: bytes.Clone(value)}, api.OK)
}

// fail tells why the walk ends.
func (w *walk) fail(e api.Errno) bool {
	w.yield(api.Pair{}, e)
	return false
}
