package trie_test

import (
	"bytes"
	"maps"
	"slices"
	"strings"
	"testing"

	"cairn/api"
	"cairn/trie"
)

// longest is a key, and a value, of as many bytes as may be.
func longest() (key, value []byte) {
	return bytes.Repeat([]byte{0xab}, api.MaxTrieKey), bytes.Repeat([]byte("v"), api.MaxTrieValue)
}

func TestLongKeysAndValues(t *testing.T) { // P12.4
	key, value := longest()
	longKey, longValue := append(slices.Clone(key), 1), append(slices.Clone(value), 1)
	missing := trie.New(nil, name(1))
	for what, x := range map[string]*trie.Trie{"filled": filled(t, animals()), "taken up": taken(animals()), "missing": missing} {
		root, _ := x.Root()
		for _, v := range [][]byte{nil, {1}, value, longValue} {
			wantErrno(t, what+": Put of a long key", x.Put(longKey, v), api.ErrLong)
		}
		wantErrno(t, what+": Put of a long value", x.Put([]byte("dog"), longValue), api.ErrLong)
		wantErrno(t, what+": Delete", x.Delete(longKey), api.ErrLong)
		if b, e := x.Get(longKey); e != api.ErrLong || len(b) > 0 {
			t.Errorf("%s: Get: %x, %d", what, b, e)
		}
		wantRoot(t, what, x, root)
	}
	h := animals()
	x := taken(h)
	for _, k := range []string{string(key), string(key[:63]), ""} {
		for _, v := range []string{string(value), "v", string(value[:70])} {
			must(t, x.Put([]byte(k), []byte(v)))
			h[k] = v
			wantHas(t, "the longest", x, h)
		}
	}
	for _, k := range []string{"", string(key), string(key[:63])} {
		must(t, x.Delete([]byte(k)))
		delete(h, k)
		wantHas(t, "deleted", x, h)
	}
}

func TestKeysThatBeginOthers(t *testing.T) { // P12.4: a branch has the value of the key that ends there
	key, _ := longest()
	for _, value := range []string{"v", strings.Repeat("v", 40)} {
		h := has{}
		x := trie.New(nil, trie.Empty())
		for long := range len(key) + 1 { // every key begins the next one
			must(t, x.Put(key[:long], []byte(value)))
			h[string(key[:long])] = value
			wantRoot(t, "longer", x, rootOf(h))
		}
		wantHas(t, "all of them", x, h)
		wantHas(t, "taken up", taken(h), h)
		for long := range len(key) + 1 {
			y := x.Clone()
			must(t, y.Delete(key[:long]))
			wantGet(t, "one deleted", y, string(key[:long]), has{})
			wantRoot(t, "one deleted", y, rootOf(h.without(string(key[:long]))))
		}
		for long := range len(key) + 1 {
			must(t, x.Delete(key[:long]))
			delete(h, string(key[:long]))
			wantRoot(t, "from the front", x, rootOf(h))
		}
	}
}

func TestPutOfNothingDeletes(t *testing.T) { // P12.4
	for _, nothing := range [][]byte{nil, {}, make([]byte, 5)[:0]} {
		for key := range animals() {
			for _, x := range []*trie.Trie{filled(t, animals()), taken(animals())} {
				must(t, x.Put([]byte(key), nothing))
				wantHas(t, "Put of nothing", x, animals().without(key))
			}
		}
		x := taken(animals())
		must(t, x.Put([]byte("cat"), nothing))
		wantHas(t, "a key without value", x, animals())
		wantNodes(t, "a key without value", x, nil)
	}
}

func TestDeleteOfNothingChangesNothing(t *testing.T) { // P12.4
	r := row(6)
	for range 200 {
		h := r.has(12)
		s, root := spyOf(h)
		taken, own := trie.New(s, root), filled(t, h)
		for range 6 {
			key := r.key()
			if _, is := h[key]; is {
				continue
			}
			for _, x := range []*trie.Trie{taken, own} {
				wantErrno(t, "Delete", x.Delete([]byte(key)), api.OK)
				wantRoot(t, "Delete", x, root)
			}
		}
		wantNodes(t, "taken", taken, nil)
		wantNodes(t, "own", own, nodesOf(h))
		s.asked = nil
		taken.Get(nil)
		if len(h) > 0 && len(s.asked) == 0 {
			t.Error("a Delete of nothing made the root the trie's own")
		}
	}
}

func TestBranchesWithOneKidLeft(t *testing.T) { // P12.4: what stands below is joined with what stands above
	long := strings.Repeat("v", 40)
	for _, c := range []struct {
		what string
		left has
		key  string
	}{
		{"a short leaf", has{"\x12": "v"}, "\x22"},
		{"a long leaf", has{"\x12": long}, "\x22"},
		{"a value behind no nibbles", has{"": "v"}, "\x22"},
		{"a leaf beside a value", has{"\x12": long}, ""},
		{"a leaf behind an extension", has{"\x12\x34": long}, "\x12\x44"},
		{"a leaf behind a branch and an extension", has{"\x12\x34": long, "\x22": "w"}, "\x12\x44"},
		{"a branch", has{"\x12": long, "\x13": long}, "\x22"},
		{"a short branch", has{"\x12": "v", "\x13": "w"}, "\x22"},
		{"an extension", has{"\x12\x34": long, "\x12\x35": long}, "\x22"},
		{"a branch behind an extension", has{"\x12\x34\x56": long, "\x12\x34\x57": long}, "\x12\x44"},
		{"an extension behind an extension", has{"\x12\x34\x56\x78": long, "\x12\x34\x56\x79": long}, "\x12\x44"},
		{"a value behind an extension", has{"\x12": long}, "\x12\x44"},
		{"a branch with a value", has{"\x12": long, "\x12\x34": long}, "\x22"},
		{"a branch behind a value", has{"\x12\x34": long, "\x12\x44": long}, "\x12"},
	} {
		h := c.left.with(c.key, long)
		for _, x := range []*trie.Trie{taken(h), filled(t, h)} {
			must(t, x.Delete([]byte(c.key)))
			wantHas(t, c.what, x, c.left)
		}
		// Of what is new just that is told which the map has now and the source had not.
		want := nodesOf(c.left)
		maps.DeleteFunc(want, func(n api.Hash, _ []byte) bool { return nodesOf(h)[n] != nil })
		x := taken(h)
		must(t, x.Delete([]byte(c.key)))
		wantNodes(t, c.what, x, want)
	}
}

func TestTheNodeThatIsLeftAlone(t *testing.T) { // P12.4: it is read, whatever it is
	long := strings.Repeat("v", 40)
	for what, left := range map[string]has{
		"a leaf":       {"\x12": long},
		"an extension": {"\x12\x34": long, "\x12\x35": long},
		"a branch":     {"\x12": long, "\x13": long},
	} {
		h := left.with("\x22", "another "+long) // so that no two nodes are alike
		way, alone := h.way("\x22")
		if len(alone) != 1 {
			t.Fatalf("%s is not told by hash", what)
		}
		s, root := spyOf(h)
		b := s.nodes[alone[0]]
		x := trie.New(s, root)

		delete(s.nodes, alone[0])
		for range 2 {
			wantErrno(t, what+" is missing", x.Delete([]byte{0x22}), api.ErrMissing)
			wantErrno(t, what+" is missing", x.Put([]byte{0x22}, nil), api.ErrMissing)
		}
		s.nodes[alone[0]] = []byte{0x80}
		wantErrno(t, what+" is no node", x.Delete([]byte{0x22}), api.ErrNode)
		wantRoot(t, what, x, root)
		wantNodes(t, what, x, nil)

		// It is not asked for where another kid, or a value, is left.
		s.asked = nil
		y := x.Clone()
		must(t, y.Put([]byte{0x33}, []byte(long)), y.Delete([]byte{0x22}))
		wantRoot(t, what+" beside another", y, rootOf(left.with("\x33", long)))
		z := x.Clone()
		must(t, z.Put(nil, []byte("a value")), z.Delete([]byte{0x22}))
		wantRoot(t, what+" beside a value", z, rootOf(left.with("", "a value")))
		if slices.Contains(s.asked, alone[0]) {
			t.Errorf("%s: asked for though it isn't alone", what)
		}
		wantErrno(t, what+" alone again", y.Delete([]byte{0x33}), api.ErrNode)
		wantErrno(t, what+" alone again", z.Delete(nil), api.ErrNode)

		s.nodes[alone[0]] = b
		s.asked = nil
		must(t, x.Delete([]byte{0x22}), y.Delete([]byte{0x33}), z.Delete(nil))
		for _, one := range []*trie.Trie{x, y, z} {
			wantRoot(t, what, one, rootOf(left))
		}
		s.wantAsked(t, what, slices.Concat(way, alone, alone, alone))
	}
}

func TestTheFirstErrorOnTheWay(t *testing.T) { // P12.3, P12.4: the errors of nodes come from the root down
	missingBelow := lying(form(extOf(ref(2), 1)), form(branchOf("", map[int]api.Item{1: ref(9), 2: ref(3)})), []byte("no node"))
	for key, want := range map[string]api.Errno{"\x11": api.ErrMissing, "\x12": api.ErrNode, "\x13": api.ErrNone, "\x21": api.ErrNone} {
		_, e := missingBelow.Get([]byte(key))
		wantErrno(t, "Get", e, want)
		if want == api.ErrNone {
			want = api.OK
		}
		wantErrno(t, "Delete", missingBelow.Delete([]byte(key)), want)
		x := missingBelow.Clone()
		wantErrno(t, "Put", x.Put([]byte(key), []byte("v")), want)
	}
	noneAbove := lying([]byte("no node"))
	_, e := noneAbove.Get([]byte{0x11})
	wantErrno(t, "Get", e, api.ErrNode)
}

func TestErrorsChangeNothing(t *testing.T) { // P12.4, P4
	long := strings.Repeat("v", 40)
	h := has{"\x11": long, "\x12": long, "\x21": long + "1", "\x22": long + "2"}
	all := nodesOf(h)
	s, root := spyOf(h)
	way, _ := h.way("\x21")
	delete(s.nodes, way[1])
	x := trie.New(s, root)
	must(t, x.Put([]byte{0x11}, []byte("new"))) // the root and its first kid are the trie's own now
	h["\x11"] = "new"
	before, _ := x.Nodes()
	for range 2 {
		wantErrno(t, "Put", x.Put([]byte{0x21}, []byte("w")), api.ErrMissing)
		wantErrno(t, "Delete", x.Delete([]byte{0x21}), api.ErrMissing)
		wantErrno(t, "Get", second(x.Get([]byte{0x21})), api.ErrMissing)
		wantErrno(t, "Put", x.Put(make([]byte, 65), []byte("w")), api.ErrLong)
		wantRoot(t, "behind errors", x, rootOf(h))
		after, _ := x.Nodes()
		if !slices.EqualFunc(before, after, func(a, b api.Node) bool { return a.Hash == b.Hash && bytes.Equal(a.Bytes, b.Bytes) }) {
			t.Error("Nodes are others behind errors")
		}
	}
	if l, e := x.All(); e != api.ErrMissing || len(l) > 0 {
		t.Errorf("All: %s, %d", line(l), e)
	}
	s.nodes = all
	wantHas(t, "once the node is there", x, h)
}
