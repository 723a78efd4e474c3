package store

import (
	"iter"
	"slices"
	"strings"
)

// entry is a key with what it has.
type entry[V any] struct {
	key   string
	value V
}

// list has values by keys, in the order of the keys' bytes, no two keys alike. Nothing writes into one that is made, so that whoever
// ranges over it keeps what he began with, whatever becomes of the store.
type list[V any] []entry[V]

// place answers where that key stands, or would stand, and whether it is there.
func (l list[V]) place(key string) (int, bool) {
	return slices.BinarySearchFunc(l, key, func(e entry[V], key string) int {
		return strings.Compare(e.key, key)
	})
}

// from answers the part of the list from that key on.
func (l list[V]) from(key string) list[V] {
	at, _ := l.place(key)
	return l[at:]
}

// over tells what older tells and what the list has, in the order of the keys; of a key that both have the list's value alone.
func (l list[V]) over(older iter.Seq2[string, V]) iter.Seq2[string, V] {
	return func(yield func(string, V) bool) {
		rest := l
		for key, value := range older {
			for len(rest) > 0 && rest[0].key < key {
				if !yield(rest[0].key, rest[0].value) {
					return
				}
				rest = rest[1:]
			}
			if len(rest) > 0 && rest[0].key == key { // the list's own is told ahead of the next key
				continue
			}
			if !yield(key, value) {
				return
			}
		}
		for _, e := range rest {
			if !yield(e.key, e.value) {
				return
			}
		}
	}
}

// runs are lists that lie over one another, the newest last: of a key that several have the newest one's value counts. Each is at least
// twice as long as the next one, so that they are few, and a put moves few entries on the average.
type runs[V any] []list[V]

// get answers what the key has.
func (r runs[V]) get(key string) (V, bool) {
	for _, l := range slices.Backward(r) {
		if at, is := l.place(key); is {
			return l[at].value, true
		}
	}
	var none V
	return none, false
}

// over tells what older tells and what the runs have from that key on, in the order of the keys; of a key that both have the runs' value
// alone.
func (r runs[V]) over(older iter.Seq2[string, V], from string) iter.Seq2[string, V] {
	for _, l := range r {
		older = l.from(from).over(older)
	}
	return older
}

// merged answers all that the runs have as one list.
func (r runs[V]) merged() list[V] {
	most := 0
	for _, l := range r {
		most += len(l)
	}
	return gather(r.over(nothing, ""), most)
}

// with answers the runs with a list laid over them.
func (r runs[V]) with(l list[V]) runs[V] {
	for len(r) > 0 && len(r[len(r)-1]) < 2*len(l) {
		last := len(r) - 1
		l = runs[V]{r[last], l}.merged()
		r = r[:last]
	}
	return append(slices.Clone(r), l)
}

// nothing tells nothing.
func nothing[V any](func(string, V) bool) {}

// gather answers the list of what is told in the order of the keys, which are at most so many.
func gather[V any](told iter.Seq2[string, V], most int) list[V] {
	l := make(list[V], 0, most)
	for key, value := range told {
		l = append(l, entry[V]{key: key, value: value})
	}
	return l
}
