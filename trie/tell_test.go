package trie_test

import (
	"bytes"
	"maps"
	"slices"
	"strings"
	"testing"

	"cairn/api"
	"cairn/trie"
)

func TestNodesOfWholeMaps(t *testing.T) { // P12.5
	wantNodes(t, "the empty map", trie.New(nil, trie.Empty()), nil)
	wantNodes(t, "a short root", filled(t, has{"a": "b"}), map[api.Hash][]byte{hashOf(form(leafOf("b", 6, 1))): form(leafOf("b", 6, 1))})
	wantNodes(t, "the shortest root", filled(t, has{"": "b"}), map[api.Hash][]byte{hashOf([]byte{0xc2, 0x20, 'b'}): {0xc2, 0x20, 'b'}})
	r := row(7)
	for range 300 {
		h := r.has(14)
		x := filled(t, h)
		wantNodes(t, "a whole map", x, nodesOf(h))
		wantNodes(t, "told again", x, nodesOf(h))
		wantNodes(t, "taken up", taken(h), nil)
	}
}

func TestNodesAreToldOnce(t *testing.T) { // P12.5
	long := strings.Repeat("v", 40)
	h := has{"\x11\x11": long, "\x21\x11": long, "\x31\x11": long} // three kids alike
	if n := len(nodesOf(h)); n != 2 {
		t.Fatalf("%d nodes", n)
	}
	wantNodes(t, "alike", filled(t, h), nodesOf(h))
}

func TestNodesThatTheSourceHas(t *testing.T) { // P12.5: whatever it has under their hashes
	r := row(8)
	for range 300 {
		h, other := r.has(10), r.has(10)
		s := &spy{nodes: map[api.Hash][]byte{}}
		for n := range nodesOf(h) {
			if r.below(2) == 0 {
				s.nodes[n] = []byte("had")
			}
		}
		x := trie.New(s, trie.Empty())
		for _, p := range other.pairs() {
			must(t, x.Put(p.Key, p.Value))
		}
		want := nodesOf(other)
		maps.DeleteFunc(want, func(n api.Hash, _ []byte) bool { return s.nodes[n] != nil })
		wantNodes(t, "partly had", x, want)
	}
}

func TestNodesOfChangedMaps(t *testing.T) { // P12.5: those that are new
	r := row(9)
	for range 300 {
		h := r.has(12)
		s, root := spyOf(h)
		x := trie.New(s, root)
		for range r.below(5) {
			key := r.key()
			if r.below(3) == 0 {
				must(t, x.Delete([]byte(key)))
				h = h.without(key)
			} else {
				value := r.value()
				must(t, x.Put([]byte(key), []byte(value)))
				h = h.with(key, value)
			}
		}
		want := nodesOf(h)
		maps.DeleteFunc(want, func(n api.Hash, _ []byte) bool { return s.nodes[n] != nil })
		wantNodes(t, "changed", x, want)
		maps.Copy(s.nodes, want)
		wantNodes(t, "the source has them now", x, nil)
	}
}

func TestNodesOfWhatIsPutBack(t *testing.T) { // P12.5: the source has them still
	h := animals()
	for key, value := range h {
		x := taken(h)
		must(t, x.Put([]byte(key), []byte("for a while")), x.Put([]byte(key), []byte(value)))
		wantNodes(t, "put back", x, nil)
		must(t, x.Delete([]byte(key)), x.Put([]byte(key), []byte(value)))
		wantNodes(t, "deleted and put back", x, nil)
		must(t, x.Put([]byte(key), []byte(value)))
		wantNodes(t, "put as it was", x, nil)
		wantHas(t, "put back", x, h)
	}
}

func TestNodesBelowOnesThatTheSourceHas(t *testing.T) { // P12.5: a node that it has doesn't say that it has those below
	h := animals()
	root := rootOf(h)
	s := &spy{nodes: map[api.Hash][]byte{root: nodesOf(h)[root]}}
	x := trie.New(s, trie.Empty())
	for _, p := range h.pairs() {
		must(t, x.Put(p.Key, p.Value))
	}
	want := nodesOf(h)
	delete(want, root)
	if len(want) == 0 {
		t.Fatal("the root is the only node")
	}
	wantNodes(t, "all but the root", x, want)
}

func TestAllIsInOrder(t *testing.T) { // P12.5
	h := has{}
	for b := range 256 {
		h[string([]byte{byte(b)})] = "v"
		h[string([]byte{byte(b), 0})] = "w"
	}
	h[""] = "x"
	for _, x := range []*trie.Trie{filled(t, h), taken(h)} {
		l, e := x.All()
		must(t, e)
		if len(l) != 513 || !slices.IsSortedFunc(l, func(a, b api.Pair) int { return bytes.Compare(a.Key, b.Key) }) {
			t.Errorf("%d pairs: %s", len(l), line(l))
		}
		wantText(t, "Each", line(goneOver(x.Each())), line(l))
	}
	wantHas(t, "all bytes", taken(h), h)
}

func TestAllUpToAnError(t *testing.T) { // P12.5: of the first node, going from the front; Each ends there
	long := strings.Repeat("v", 40)
	h := has{"": "x", "\x11": long, "\x22": "short", "\x33": long, "\x44": long}
	for bad, ahead := range map[string]int{"\x11": 1, "\x33": 3, "\x44": 4} {
		for _, b := range [][]byte{nil, {0x80}} {
			s, root := spyOf(h)
			way, _ := h.way(bad)
			want := api.ErrMissing
			delete(s.nodes, way[1])
			if b != nil {
				s.nodes[way[1]] = b
				want = api.ErrNode
			}
			x := trie.New(s, root)
			for range 2 {
				if l, e := x.All(); e != want || len(l) > 0 {
					t.Errorf("All: %s, %d", line(l), e)
				}
				wantText(t, "Each", line(goneOver(x.Each())), line(h.pairs()[:ahead]))
			}
			// An error behind it doesn't come to light.
			last, _ := h.way("\x44")
			if bad != "\x44" {
				delete(s.nodes, last[1])
				_, e := x.All()
				wantErrno(t, "the first one", e, want)
			}
		}
	}
}

func TestEachIsLeft(t *testing.T) { // P12.5: whoever ranges may leave at any pair, and begin anew
	h := animals()
	h["\x00"], h["\x00\x01"] = "v", "w"
	for _, x := range []*trie.Trie{filled(t, h), taken(h)} {
		each := x.Each()
		for many := range len(h) + 2 {
			var l []api.Pair
			for key, value := range each {
				if len(l) == many {
					break
				}
				l = append(l, api.Pair{Key: key, Value: value})
			}
			wantText(t, "left", line(l), line(h.pairs()[:min(many, len(h))]))
		}
	}
	s, root := spyOf(h)
	for range trie.New(s, root).Each() {
		break
	}
	if len(s.asked) >= len(s.nodes) {
		t.Errorf("all of %d nodes were read for one pair", len(s.nodes))
	}
}

func TestEachWhileTheTrieChanges(t *testing.T) { // P2: Each tells what the map was at the call
	h := animals()
	for _, x := range []*trie.Trie{filled(t, h), taken(h)} {
		each := x.Each()
		must(t, x.Put([]byte("cat"), []byte("meow")), x.Delete([]byte("dog")))
		wantText(t, "changed ahead", line(goneOver(each)), line(h.pairs()))
		var l []api.Pair
		now := h.without("dog").with("cat", "meow")
		for key, value := range x.Each() {
			l = append(l, api.Pair{Key: key, Value: value})
			must(t, x.Delete(key), x.Put(append(key, 1), []byte("more")))
		}
		for i, p := range now.pairs() {
			wantText(t, "changed meanwhile", string(l[i].Value), string(p.Value))
		}
		if len(l) != len(now) {
			t.Errorf("%d pairs", len(l))
		}
	}
}

func TestClone(t *testing.T) { // P12.5: neither changes the other
	h := animals()
	changed := h.with("do", "did").without("horse").with("cat", "meow")
	change := func(x *trie.Trie) {
		t.Helper()
		must(t, x.Put([]byte("do"), []byte("did")), x.Delete([]byte("horse")), x.Put([]byte("cat"), []byte("meow")))
	}
	for _, make := range []func() *trie.Trie{func() *trie.Trie { return filled(t, h) }, func() *trie.Trie { return taken(h) }} {
		x := make()
		y := x.Clone()
		z := y.Clone()
		nodes, _ := x.Nodes()
		change(y)
		wantHas(t, "the first", x, h)
		wantHas(t, "the clone", y, changed)
		wantHas(t, "the clone's clone", z, h)
		if l, _ := x.Nodes(); len(l) != len(nodes) {
			t.Error("other Nodes")
		}
		change(x)
		wantHas(t, "the first", x, changed)
		must(t, y.Put([]byte("do"), []byte("done")))
		wantHas(t, "the first", x, changed)
		wantHas(t, "the clone's clone", z, h)
	}
	// The source is the same: what it gets the clone has.
	m := trie.NewMemory()
	x := trie.New(m, rootOf(h))
	y := x.Clone()
	for n, b := range nodesOf(h) {
		m.Add([]api.Node{{Hash: n, Bytes: b}})
	}
	wantHas(t, "filled behind Clone", y, h)
	wantHas(t, "the empty map", trie.New(nil, trie.Empty()).Clone(), has{})
}

func TestRootsByHand(t *testing.T) { // P12.5, 12.1: forms that are written out
	long := strings.Repeat("v", 40)
	for _, c := range []struct {
		what string
		h    has
		want api.Item
	}{
		{"a leaf", has{"\x12": "v"}, leafOf("v", 1, 2)},
		{"a leaf behind no nibbles", has{"": "v"}, leafOf("v")},
		{"a branch", has{"\x12": "v", "\x22": "w"}, branchOf("", map[int]api.Item{1: leafOf("v", 2), 2: leafOf("w", 2)})},
		{"a branch with a value", has{"": "v", "\x22": "w"}, branchOf("v", map[int]api.Item{2: leafOf("w", 2)})},
		{"an extension", has{"\x12": "v", "\x13": "w"}, extOf(branchOf("", map[int]api.Item{2: leafOf("v"), 3: leafOf("w")}), 1)},
		{"an extension to a value", has{"\x12": long, "\x12\x34": "w"}, extOf(text(string(trie.Secure(form(branchOf(long, map[int]api.Item{3: leafOf("w", 4)}))))), 1, 2)},
	} {
		wantRoot(t, c.what, filled(t, c.h), hashOf(form(c.want)))
		if h, e := trie.Root(c.h.pairs()); h != hashOf(form(c.want)) || e != api.OK {
			t.Errorf("%s: Root %x, %d", c.what, h, e)
		}
	}
}
