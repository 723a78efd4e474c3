package trie_test

import (
	"bytes"
	"testing"

	"cairn/api"
	"cairn/trie"
)

func TestNobody(t *testing.T) { // 12.2
	long := make([]byte, api.MaxTrieKey+1)
	for what, x := range map[string]*trie.Trie{"nil": nil, "new": new(trie.Trie), "a literal": {}} {
		for range 2 {
			for _, key := range [][]byte{nil, {}, {1}, long} {
				if b, e := x.Get(key); len(b) > 0 || e != api.ErrTrie {
					t.Errorf("%s: Get: %x, %d", what, b, e)
				}
				for _, value := range [][]byte{nil, {1}, make([]byte, api.MaxTrieValue+1)} {
					wantErrno(t, what+": Put", x.Put(key, value), api.ErrTrie)
				}
				wantErrno(t, what+": Delete", x.Delete(key), api.ErrTrie)
			}
			if h, e := x.Root(); h != (api.Hash{}) || e != api.ErrTrie {
				t.Errorf("%s: Root: %x, %d", what, h, e)
			}
			if l, e := x.Nodes(); len(l) > 0 || e != api.ErrTrie {
				t.Errorf("%s: Nodes: %v, %d", what, l, e)
			}
			if l, e := x.All(); len(l) > 0 || e != api.ErrTrie {
				t.Errorf("%s: All: %v, %d", what, l, e)
			}
			for key := range x.Each() {
				t.Errorf("%s: Each tells %x", what, key)
			}
			if x.Clone() != nil {
				t.Errorf("%s: Clone is not nil", what)
			}
		}
	}
}

func TestNobodysMemory(t *testing.T) { // 12.2
	for what, m := range map[string]*trie.Memory{"nil": nil, "new": new(trie.Memory), "a literal": {}} {
		for range 2 {
			if n := m.Add([]api.Node{{Hash: name(1), Bytes: []byte("a")}, {}}); n != 0 {
				t.Errorf("%s: Add: %d", what, n)
			}
			if m.Add(nil) != 0 || m.Len() != 0 {
				t.Errorf("%s: Len %d", what, m.Len())
			}
			for _, h := range []api.Hash{{}, name(1)} {
				if b, e := m.Node(h); len(b) > 0 || e != api.ErrNone {
					t.Errorf("%s: Node: %x, %d", what, b, e)
				}
			}
		}
		x := trie.New(m, trie.Empty()) // as a source it has nothing
		must(t, x.Put([]byte("a"), []byte("b")))
		wantHas(t, what, x, has{"a": "b"})
		wantNodes(t, what, x, nodesOf(has{"a": "b"}))
		_, e := trie.New(m, name(1)).Get(nil)
		wantErrno(t, what, e, api.ErrMissing)
	}
}

func TestMemory(t *testing.T) { // 12.2
	m := trie.NewMemory()
	node := func(h api.Hash, want string, should api.Errno) {
		t.Helper()
		if b, e := m.Node(h); string(b) != want || e != should {
			t.Errorf("Node %x: %q, %d, want %q, %d", h[:1], b, e, want, should)
		}
	}
	add := func(want, long int, l ...api.Node) {
		t.Helper()
		if n := m.Add(l); n != want || m.Len() != long {
			t.Errorf("Add: %d, Len %d, want %d, %d", n, m.Len(), want, long)
		}
	}
	node(name(1), "", api.ErrNone)
	add(0, 0)
	add(2, 2, api.Node{Hash: name(1), Bytes: []byte("one")}, api.Node{Hash: name(2)})
	node(name(1), "one", api.OK)
	node(name(2), "", api.OK) // bytes that are none are had, too
	node(name(3), "", api.ErrNone)
	add(0, 2, api.Node{Hash: name(1), Bytes: []byte("another")}, api.Node{Hash: name(2), Bytes: []byte("two")})
	node(name(1), "one", api.OK)
	node(name(2), "", api.OK)
	// Of those that are alike in one Add the first stays.
	add(1, 3, api.Node{Hash: name(3), Bytes: []byte("three")}, api.Node{Hash: name(1), Bytes: []byte("x")}, api.Node{Hash: name(3), Bytes: []byte("x")})
	node(name(3), "three", api.OK)
	add(1, 4, api.Node{Bytes: []byte("noughts")}) // whatever the hash is
	node(api.Hash{}, "noughts", api.OK)
	other := trie.NewMemory()
	if other.Len() != 0 {
		t.Error("another Memory has nodes")
	}
}

func TestMemorySharesNothing(t *testing.T) { // P2
	m := trie.NewMemory()
	whole := []byte("abcdef")
	l := []api.Node{{Hash: name(1), Bytes: whole[:3]}, {Hash: name(2), Bytes: whole[3:]}}
	m.Add(l[:1])
	if m.Len() != 1 {
		t.Error("what lies behind the length is read")
	}
	clear(whole)
	l[0] = api.Node{}
	one, _ := m.Node(name(1))
	if string(one) != "abc" {
		t.Errorf("what was handed in is kept: %q", one)
	}
	clear(one[:cap(one)])
	if two, _ := m.Node(name(1)); !bytes.Equal(two, []byte("abc")) {
		t.Errorf("what is told is kept: %q", two)
	}
	m.Add([]api.Node{{Hash: name(1), Bytes: whole}})
	if two, _ := m.Node(name(1)); !bytes.Equal(two, []byte("abc")) {
		t.Errorf("Add changed what is kept: %q", two)
	}
}
