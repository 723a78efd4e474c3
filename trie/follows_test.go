package trie_test

import (
	"testing"

	"cairn/api"
	"cairn/trie"
)

// step is a Put, or a Delete where the value is empty.
type step struct{ key, value string }

// steps are random Puts and Deletes.
func (r *row) steps(most int) []step {
	var l []step
	for range r.below(most + 1) {
		s := step{key: r.key()}
		if r.below(3) > 0 {
			s.value = r.value()
		}
		l = append(l, s)
	}
	return l
}

// do does a step to a trie and to a map.
func (s step) do(t *testing.T, x *trie.Trie, h has) {
	t.Helper()
	if s.value == "" {
		must(t, x.Delete([]byte(s.key)))
		delete(h, s.key)
		return
	}
	must(t, x.Put([]byte(s.key), []byte(s.value)))
	h[s.key] = s.value
}

func TestAMap(t *testing.T) { // P12.7
	r := row(12)
	for range 60 {
		h := r.has(10)
		own, over := filled(t, h), taken(h)
		mine, theirs := h.with("", "v"), h.with("", "v")
		must(t, own.Put(nil, []byte("v")), over.Put(nil, []byte("v")))
		for _, s := range r.steps(25) {
			s.do(t, own, mine)
			s.do(t, over, theirs)
			wantHas(t, "own", own, mine)
			wantHas(t, "over a source", over, theirs)
			l, e := own.All()
			must(t, e)
			root, e := trie.Root(l)
			wantErrno(t, "Root of All", e, api.OK)
			wantRoot(t, "Root of All", own, root)
		}
	}
}

func TestAMapOfSecureKeys(t *testing.T) { // P12.7: keys as a state has them, values of all lengths
	r := row(13)
	h := has{}
	m := trie.NewMemory()
	x := trie.New(m, trie.Empty())
	for i := range 600 {
		key := string(trie.Secure([]byte{byte(r.below(250))}))
		step{key: key, value: r.value()[:r.below(2)]}.do(t, x, h)
		if i%50 == 49 {
			wantHas(t, "secure keys", x, h)
			root, _ := x.Root()
			l, _ := x.Nodes()
			m.Add(l)
			x = trie.New(m, root)
		}
	}
	for key := range h {
		must(t, x.Delete([]byte(key)))
	}
	wantHas(t, "all deleted", x, has{})
}

func TestNoHistory(t *testing.T) { // P12.8
	r := row(14)
	for range 200 {
		h := r.has(10)
		l := h.pairs()
		var tries []*trie.Trie
		for range 3 {
			for i := range l {
				j := r.below(i + 1)
				l[i], l[j] = l[j], l[i]
			}
			other := r.has(8)
			x := taken(other)
			if r.below(2) == 0 {
				x = filled(t, other)
			}
			steps := r.steps(8)
			for _, s := range steps { // a way that leads elsewhere
				s.do(t, x, other)
			}
			for key := range other {
				if _, is := h[key]; !is {
					must(t, x.Delete([]byte(key)))
				}
			}
			for _, p := range l {
				must(t, x.Put(p.Key, p.Value))
			}
			tries = append(tries, x)
		}
		for _, x := range tries {
			wantRoot(t, "no history", x, rootOf(h))
		}
	}
}

func TestUnlikeMaps(t *testing.T) { // P12.9
	seen := map[api.Hash]string{}
	add := func(h has) {
		t.Helper()
		text := line(h.pairs())
		for _, x := range []*trie.Trie{filled(t, h), taken(h)} {
			root, e := x.Root()
			must(t, e)
			if other, is := seen[root]; is && other != text {
				t.Errorf("one root: %s; %s", text, other)
			}
			seen[root] = text
		}
	}
	// All maps of a few keys that are near each other to a few values that are, each key with one or with none.
	keys := []string{"", "\x00", "\x10", "\x00\x00", "\x01"}
	values := []string{"", "\x00", "\x80", "\x20\x00"}
	for n := range 1024 {
		h := has{}
		for _, key := range keys {
			if values[n%4] != "" {
				h[key] = values[n%4]
			}
			n /= 4
		}
		add(h)
	}
	if len(seen) != 1024 {
		t.Errorf("%d roots", len(seen))
	}
	r := row(15)
	for range 200 {
		h := r.has(10)
		add(h)
		for key, value := range h {
			add(h.without(key))
			add(h.with(key, flipped(value)))
			add(h.without(key).with(key+"\x00", value))
		}
	}
}

func TestKept(t *testing.T) { // P12.10
	r := row(16)
	for range 200 {
		m := trie.NewMemory()
		x := trie.New(m, trie.Empty())
		h := has{}
		for range 3 {
			for _, s := range r.steps(10) {
				s.do(t, x, h)
			}
			root, e := x.Root()
			must(t, e)
			l, e := x.Nodes()
			must(t, e)
			if n := m.Add(l); n != len(l) {
				t.Errorf("%d of %d nodes were new", n, len(l))
			}
			y := trie.New(m, root)
			wantHas(t, "kept", y, h)
			wantNodes(t, "kept", y, nil)
			wantNodes(t, "the one that was there", x, nil)
			if r.below(2) == 0 {
				x = y
			}
		}
	}
}

func TestInPieces(t *testing.T) { // P12.12
	r := row(17)
	for range 100 {
		m := trie.NewMemory()
		h := has{}
		root := trie.Empty()
		whole := trie.New(nil, root)
		for _, s := range r.steps(25) {
			x := trie.New(m, root)
			s.do(t, x, h)
			s.do(t, whole, h)
			l, e := x.Nodes()
			must(t, e)
			m.Add(l)
			root, e = x.Root()
			must(t, e)
			wantRoot(t, "in pieces", whole, root)
			if root != rootOf(h) {
				t.Errorf("in pieces: %x, want %x", root, rootOf(h))
			}
		}
		wantHas(t, "in pieces", trie.New(m, root), h)
	}
}
