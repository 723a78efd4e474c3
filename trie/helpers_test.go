package trie_test

import (
	"bytes"
	"encoding/hex"
	"fmt"
	"iter"
	"maps"
	"slices"
	"strings"
	"testing"

	"cairn/api"
	"cairn/digest"
	"cairn/rlp"
	"cairn/trie"
)

// has is a map of what a trie has.
type has map[string]string

// with is the map with one key more, without is it with one key less.
func (h has) with(key, value string) has {
	m := maps.Clone(h)
	m[key] = value
	return m
}

func (h has) without(key string) has {
	m := maps.Clone(h)
	delete(m, key)
	return m
}

// pairs are the map's pairs, in the order of the keys.
func (h has) pairs() []api.Pair {
	var l []api.Pair
	for _, key := range slices.Sorted(maps.Keys(h)) {
		l = append(l, api.Pair{Key: []byte(key), Value: []byte(h[key])})
	}
	return l
}

// line tells pairs on one line.
func line(l []api.Pair) string {
	var parts []string
	for _, p := range l {
		parts = append(parts, fmt.Sprintf("%x: %s", p.Key, short(p.Value)))
	}
	return strings.Join(parts, ", ")
}

// short is bytes that aren't too long to be told.
func short(b []byte) string {
	if len(b) > 80 {
		return fmt.Sprintf("%d bytes of %x", len(b), digest.Keccak(b))
	}
	return fmt.Sprintf("%q", b)
}

// gone over: the pairs that an iterator tells.
func goneOver(each iter.Seq2[[]byte, []byte]) []api.Pair {
	var l []api.Pair
	for key, value := range each {
		l = append(l, api.Pair{Key: key, Value: value})
	}
	return l
}

// spy is a source that remembers what it was asked for.
type spy struct {
	nodes map[api.Hash][]byte
	asked []api.Hash
	e     api.Errno // the answer where it has nothing; OK: ErrNone
}

func (s *spy) Node(h api.Hash) ([]byte, api.Errno) {
	s.asked = append(s.asked, h)
	if b, is := s.nodes[h]; is {
		return b, api.OK
	}
	if s.e != api.OK {
		return []byte("beside an error"), s.e
	}
	return nil, api.ErrNone
}

// wantAsked holds what a spy was asked for against what it should have been, and forgets it.
func (s *spy) wantAsked(t *testing.T, what string, want []api.Hash) {
	t.Helper()
	if !slices.Equal(s.asked, want) {
		t.Errorf("%s: asked for %x, want %x", what, s.asked, want)
	}
	s.asked = nil
}

// spyOf is a source with all nodes of a map, and the map's root.
func spyOf(h has) (*spy, api.Hash) { return &spy{nodes: nodesOf(h)}, rootOf(h) }

// taken is a trie of a map, taken up from a source with all its nodes.
func taken(h has) *trie.Trie {
	s, root := spyOf(h)
	return trie.New(s, root)
}

// filled is a trie of a map over a source that has nothing.
func filled(t *testing.T, h has) *trie.Trie {
	t.Helper()
	x := trie.New(nil, trie.Empty())
	for _, p := range h.pairs() {
		must(t, x.Put(p.Key, p.Value))
	}
	return x
}

// name is a hash that a test chooses, whatever the node is.
func name(n byte) api.Hash { return api.Hash{n} }

// lying is a trie whose source tells these nodes by name(1), name(2) and so on, of which the first is the root's.
func lying(nodes ...[]byte) *trie.Trie {
	s := &spy{nodes: map[api.Hash][]byte{}}
	for i, b := range nodes {
		s.nodes[name(byte(i+1))] = b
	}
	return trie.New(s, name(1))
}

// Items, short to write: a text, a list, a node's name; a leaf and an extension of a prefix, a branch of kids by nibble.
func text(s string) api.Item { return api.Item{Bytes: []byte(s)} }

func list(kids ...api.Item) api.Item { return api.Item{List: 1, Kids: kids} }

func ref(n byte) api.Item { h := name(n); return text(string(h[:])) }

func leafOf(value string, nibbles ...byte) api.Item {
	return list(text(string(prefixOf(nibbles, true))), text(value))
}

func extOf(kid api.Item, nibbles ...byte) api.Item {
	return list(text(string(prefixOf(nibbles, false))), kid)
}

func branchOf(value string, kids map[int]api.Item) api.Item {
	l := make([]api.Item, 17)
	for i, x := range kids {
		l[i] = x
	}
	l[16] = text(value)
	return list(l...)
}

// form is an item's form.
func form(x api.Item) []byte {
	b, e := rlp.Encode(x)
	if e != api.OK {
		panic(e)
	}
	return b
}

// wantHas holds all that a trie tells against a map, asked for keys near by, too.
func wantHas(t *testing.T, what string, x *trie.Trie, want has) {
	t.Helper()
	l, e := x.All()
	wantErrno(t, what+": All", e, api.OK)
	wantText(t, what+": All", line(l), line(want.pairs()))
	wantText(t, what+": Each", line(goneOver(x.Each())), line(want.pairs()))
	wantRoot(t, what, x, rootOf(want))
	for key := range want {
		for _, near := range []string{key, key + "\x00", key[:max(0, len(key)-1)], "", "\xff" + key, flipped(key)} {
			wantGet(t, what, x, near, want)
		}
	}
}

// flipped is a key with its last bit changed.
func flipped(key string) string {
	b := []byte(key)
	if len(b) > 0 {
		b[len(b)-1] ^= 1
	}
	return string(b)
}

// wantGet holds what Get tells of a key against a map.
func wantGet(t *testing.T, what string, x *trie.Trie, key string, want has) {
	t.Helper()
	should := api.OK
	value, is := want[key]
	switch {
	case len(key) > api.MaxTrieKey:
		should = api.ErrLong
	case !is:
		should = api.ErrNone
	}
	if b, e := x.Get([]byte(key)); e != should || string(b) != value {
		t.Errorf("%s: Get %x: %s, %d, want %s, %d", what, key, short(b), e, short([]byte(value)), should)
	}
}

func wantRoot(t *testing.T, what string, x *trie.Trie, want api.Hash) {
	t.Helper()
	if h, e := x.Root(); h != want || e != api.OK {
		t.Errorf("%s: Root %x, %d, want %x", what, h, e, want)
	}
}

// wantNodes holds what Nodes tells against nodes that are to be told.
func wantNodes(t *testing.T, what string, x *trie.Trie, want map[api.Hash][]byte) {
	t.Helper()
	l, e := x.Nodes()
	wantErrno(t, what+": Nodes", e, api.OK)
	var got, should []string
	for _, n := range l {
		got = append(got, fmt.Sprintf("%x: %x", n.Hash, n.Bytes))
	}
	for h, b := range want {
		should = append(should, fmt.Sprintf("%x: %x", h, b))
	}
	slices.Sort(should)
	wantText(t, what+": Nodes", strings.Join(got, "\n"), strings.Join(should, "\n"))
}

func wantErrno(t *testing.T, what string, got, want api.Errno) {
	t.Helper()
	if got != want {
		t.Errorf("%s: got error %d, want %d", what, got, want)
	}
}

func wantText(t *testing.T, what, got, want string) {
	t.Helper()
	if got != want {
		t.Errorf("%s: got\n%s, want\n%s", what, got, want)
	}
}

func wantBytes(t *testing.T, what string, got []byte, want string) {
	t.Helper()
	wantText(t, what, hex.EncodeToString(got), strings.ReplaceAll(want, " ", ""))
}

// must fails the test at once if something that it only prepares is refused.
func must(t *testing.T, es ...api.Errno) {
	t.Helper()
	for i, e := range es {
		if e != api.OK {
			t.Fatalf("preparing: call %d answered %d", i, e)
		}
	}
}

// row is a row of numbers that is the same at every run.
type row uint64

func (r *row) below(n int) int {
	*r = *r*6364136223846793005 + 1442695040888963407
	return int(uint64(*r) >> 33 % uint64(n))
}

// key is a key of few bytes out of few, so that many keys begin alike or are the beginning of others.
func (r *row) key() string {
	b := make([]byte, r.below(4))
	for i := range b {
		b[i] = []byte{0x00, 0x01, 0x10, 0x11, 0xf0}[r.below(5)]
	}
	return string(b)
}

// value is a value whose leaf is often short, sometimes long.
func (r *row) value() string {
	return strings.Repeat(string(rune('a'+r.below(3))), []int{1, 2, 26, 28, 29, 30, 70}[r.below(7)])
}

// has is a map of that many random pairs at most.
func (r *row) has(most int) has {
	h := has{}
	for range r.below(most + 1) {
		h[r.key()] = r.value()
	}
	return h
}

// same says whether two maps of nodes are the same.
func same(a, b map[api.Hash][]byte) bool { return maps.EqualFunc(a, b, bytes.Equal) }

// hexOf is a hash to the base 16.
func hexOf(h api.Hash) string { return hex.EncodeToString(h[:]) }
