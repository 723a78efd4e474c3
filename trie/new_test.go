package trie_test

import (
	"slices"
	"testing"

	"cairn/api"
	"cairn/trie"
)

// animals is a map with nodes of all kinds, short and long ones.
func animals() has {
	return has{"do": "verb", "dog": "puppy", "doge": "coin", "horse": "stallion", "h": "a letter that is long enough to be told by hash"}
}

func TestEmpty(t *testing.T) { // 12.1
	want := "56e81f171bcc55a6ff8345e692c0f86e5b48e01b996cadc001622fb5e363b421"
	h := trie.Empty()
	wantBytes(t, "Empty", h[:], want)
}

func TestNewReadsNothing(t *testing.T) { // P12.2
	s, root := spyOf(animals())
	for _, h := range []api.Hash{root, name(1), {}} {
		x := trie.New(s, h)
		s.wantAsked(t, "New", nil)
		wantRoot(t, "not touched", x, h)
		wantRoot(t, "cloned", x.Clone(), h)
		wantNodes(t, "not touched", x, nil)
		x.Each()
		s.wantAsked(t, "what needs no node", nil)
	}
}

func TestEmptyAsksForNothing(t *testing.T) { // P12.2
	// Even a source that has something under that hash is not asked for it.
	for _, nodes := range []map[api.Hash][]byte{nil, {trie.Empty(): form(leafOf("x", 1, 2))}, {trie.Empty(): {0x80}}} {
		s := &spy{nodes: nodes}
		x := trie.New(s, trie.Empty())
		wantHas(t, "the empty map", x, has{})
		wantGet(t, "the empty map", x, "a", has{})
		wantGet(t, "the empty map", x, "", has{})
		wantErrno(t, "Delete", x.Delete([]byte("a")), api.OK)
		wantNodes(t, "the empty map", x, nil)
		must(t, x.Put([]byte("a"), []byte("b")))
		wantHas(t, "one pair", x, has{"a": "b"})
		must(t, x.Delete([]byte("a")))
		wantHas(t, "empty again", x, has{})
		wantNodes(t, "empty again", x, nil)
		s.wantAsked(t, "the empty map", nil)
	}
}

func TestNewOverNothing(t *testing.T) { // P12.2
	x := trie.New(nil, trie.Empty())
	wantHas(t, "the empty map", x, has{})
	must(t, x.Put([]byte("a"), []byte("b")))
	wantHas(t, "one pair", x, has{"a": "b"})
	wantNodes(t, "one pair", x, nodesOf(has{"a": "b"}))

	x = trie.New(nil, rootOf(animals()))
	for range 2 {
		wantRoot(t, "missing", x, rootOf(animals()))
		wantAllErrors(t, "missing", x, "dog", api.ErrMissing)
		wantNodes(t, "missing", x, nil)
	}
}

// wantAllErrors asks all calls that read a node on a key's way, and wants that error.
func wantAllErrors(t *testing.T, what string, x *trie.Trie, key string, want api.Errno) {
	t.Helper()
	if b, e := x.Get([]byte(key)); e != want || len(b) > 0 {
		t.Errorf("%s: Get: %x, %d, want %d", what, b, e, want)
	}
	wantErrno(t, what+": Put", x.Put([]byte(key), []byte("new")), want)
	wantErrno(t, what+": Put of nothing", x.Put([]byte(key), nil), want)
	wantErrno(t, what+": Delete", x.Delete([]byte(key)), want)
	if l, e := x.All(); e != want || len(l) > 0 {
		t.Errorf("%s: All: %s, %d, want %d", what, line(l), e, want)
	}
}

func TestNodesAreReadWhereTheyAreNeeded(t *testing.T) { // P12.2: by the way of a key, from the root down
	r := row(2)
	for range 400 {
		h := r.has(12)
		s, root := spyOf(h)
		for range 4 {
			key := r.key()
			way, alone := h.way(key)
			wantGet(t, "Get", trie.New(s, root), key, h)
			s.wantAsked(t, "Get", way)
			must(t, trie.New(s, root).Put([]byte(key), []byte("new")))
			s.wantAsked(t, "Put", way)
			must(t, trie.New(s, root).Delete([]byte(key)))
			s.wantAsked(t, "Delete", slices.Concat(way, alone))
		}
	}
}

func TestWhatIsThereAlreadyIsNotAskedFor(t *testing.T) { // what Put and Delete made is the trie's own
	s, root := spyOf(animals())
	x := trie.New(s, root)
	must(t, x.Put([]byte("dog"), []byte("other")))
	s.asked = nil
	wantGet(t, "Get", x, "dog", has{"dog": "other"})
	s.wantAsked(t, "Get", nil)
	s.nodes = nil
	must(t, x.Put([]byte("dog"), []byte("another")), x.Delete([]byte("dog")))
	wantRoot(t, "deleted", x, rootOf(animals().without("dog")))
}

func TestMissingNodes(t *testing.T) { // P12.3, P12.4: of the first node on the way; an error changes nothing
	r := row(3)
	for range 300 {
		h := r.has(12)
		for missing := range nodesOf(h) {
			s, root := spyOf(h)
			delete(s.nodes, missing)
			s.e = []api.Errno{api.OK, api.ErrRange, api.ErrNode, api.ErrTrie, api.Errno(-1), api.Errno(77)}[r.below(6)]
			key := r.key()
			way, alone := h.way(key)
			want := api.OK
			if slices.Contains(way, missing) {
				want = api.ErrMissing
			}

			x := trie.New(s, root)
			if _, is := h[key]; want == api.OK && is {
				wantGet(t, "Get", x, key, h)
			} else {
				_, e := x.Get([]byte(key))
				wantErrno(t, "Get", e, max(want, api.ErrNone))
			}
			value := r.value()
			wantErrno(t, "Put", x.Put([]byte(key), []byte(value)), want)
			if want == api.OK {
				wantRoot(t, "Put", x, rootOf(h.with(key, value)))
			} else {
				wantRoot(t, "Put refused", x, root)
				wantNodes(t, "Put refused", x, nil)
			}

			x = trie.New(s, root)
			if slices.Contains(alone, missing) {
				want = api.ErrMissing
			}
			wantErrno(t, "Delete", x.Delete([]byte(key)), want)
			if want == api.OK {
				wantRoot(t, "Delete", x, rootOf(h.without(key)))
			} else {
				wantRoot(t, "Delete refused", x, root)
				wantNodes(t, "Delete refused", x, nil)
				s.nodes = nodesOf(h)
				wantHas(t, "nothing changed", x, h)
				must(t, x.Delete([]byte(key))) // once the node is there
				wantHas(t, "Delete", x, h.without(key))
			}
		}
	}
}

func TestASourceThatPanicsTellsNothing(t *testing.T) { // P1
	for what, s := range map[string]trie.Source{"a panic": panicking{}, "a nil pointer": (*spy)(nil)} {
		x := trie.New(s, name(1))
		wantAllErrors(t, what, x, "a", api.ErrMissing)
		wantText(t, what, line(goneOver(x.Each())), "")
		x = trie.New(s, trie.Empty())
		must(t, x.Put([]byte("a"), []byte("b")))
		wantNodes(t, what, x, nodesOf(has{"a": "b"}))
	}
}

type panicking struct{}

func (panicking) Node(api.Hash) ([]byte, api.Errno) { panic("a source of somebody else's") }
