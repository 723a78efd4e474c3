package state

import (
	"bytes"
	"iter"
	"maps"
	"slices"

	"cairn/api"
)

// table is a map that is gone over in the order of its keys.
type table[K comparable, V any] map[K]V

// put gives a key a value, and answers what takes that back.
func (t table[K, V]) put(key K, value V) func() {
	old, was := t[key]
	t[key] = value
	return func() {
		if was {
			t[key] = old
		} else {
			delete(t, key)
		}
	}
}

// inOrder tells keys and values in that order of the keys.
func (t table[K, V]) inOrder(order func(a, b K) int) iter.Seq2[K, V] {
	return func(yield func(K, V) bool) {
		for _, key := range slices.SortedFunc(maps.Keys(t), order) {
			if !yield(key, t[key]) {
				return
			}
		}
	}
}

// byAddress and byHash are the orders of the bytes.
func byAddress(a, b api.Address) int { return bytes.Compare(a[:], b[:]) }

func byHash(a, b api.Hash) int { return bytes.Compare(a[:], b[:]) }
