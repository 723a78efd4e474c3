package trie_test

import (
	"slices"
	"strings"
	"testing"

	"cairn/api"
	"cairn/trie"
)

// spoil writes over all that a list has, and what lies behind its length.
func spoil[T any](l []T, with T) {
	l = l[:cap(l)]
	for i := range l {
		l[i] = with
	}
}

func TestWhatIsHandedInIsNotKept(t *testing.T) { // P2
	long := strings.Repeat("v", 40)
	for _, value := range []string{"v", long} {
		h := animals().with("dog", value).with("cat", value).without("horse")
		for _, x := range []*trie.Trie{filled(t, animals()), taken(animals())} {
			for _, key := range []string{"dog", "cat"} {
				k, v := []byte(key), []byte(value)
				must(t, x.Put(k, v))
				spoil(k, '!')
				spoil(v, '!')
			}
			k := []byte("horse")
			must(t, x.Delete(k))
			spoil(k, '!')
			wantHas(t, "spoilt", x, h)
		}
	}
}

func TestWhatIsHandedInIsNotChanged(t *testing.T) { // P2
	bytes := []byte("keykeyvaluevalue")
	key, value := bytes[:3], bytes[6:11] // with other bytes behind their lengths
	x := filled(t, animals())
	must(t, x.Put(key, value), x.Put(key, value[:2]), x.Delete(key), x.Delete(bytes[:2]), x.Put(bytes[:4], nil))
	x.Get(key)
	trie.Root([]api.Pair{{Key: key, Value: value}, {Key: bytes[:2], Value: value[:1]}})
	trie.ListRoot([][]byte{value, key})
	trie.Nibbles(key)
	trie.Prefix(key, true)
	trie.Unprefix(key)
	trie.Secure(key)
	wantText(t, "the bytes", string(bytes), "keykeyvaluevalue")

	s, root := spyOf(animals())
	kept := nodesOf(animals())
	y := trie.New(s, root)
	must(t, y.Put([]byte("dog"), []byte("v")), y.Delete([]byte("h")))
	y.All()
	y.Nodes()
	if !same(s.nodes, kept) {
		t.Error("what a source told is changed")
	}
}

func TestWhatASourceTellsIsNotKept(t *testing.T) { // P2: a source may write over what it told
	h := animals()
	s := &forgetful{spy: spy{nodes: nodesOf(h)}}
	x := trie.New(s, rootOf(h))
	must(t, x.Put([]byte("dog"), []byte("new")), x.Delete([]byte("doge")))
	wantHas(t, "forgotten", x, h.with("dog", "new").without("doge"))
}

// forgetful is a source that tells bytes which it writes over when it is asked again.
type forgetful struct {
	spy
	last []byte
}

func (f *forgetful) Node(h api.Hash) ([]byte, api.Errno) {
	spoil(f.last, 0xee)
	b, e := f.spy.Node(h)
	f.last = slices.Clone(b)
	return f.last, e
}

func TestWhatLiesBehindALengthIsNotRead(t *testing.T) { // P2
	for _, x := range []*trie.Trie{filled(t, animals()), taken(animals())} {
		wantGet(t, "Get", x, "do", animals())
		key, value := []byte("dogdog"), []byte("valuevalue")
		must(t, x.Put(key[:3], value[:5]))
		wantHas(t, "Put", x, animals().with("dog", "value"))
		must(t, x.Put(key[:3], value[:0]))
		wantHas(t, "Put of nothing", x, animals().without("dog"))
	}
	l := []api.Pair{pair("a", "1"), pair("a", "2"), {}}
	if h, e := trie.Root(l[:1]); e != api.OK || h != rootOf(has{"a": "1"}) {
		t.Errorf("Root: %x, %d", h, e)
	}
	items := [][]byte{[]byte("a"), []byte("b")}
	if h := trie.ListRoot(items[:1]); h != rootOf(listed(items[:1])) {
		t.Errorf("ListRoot: %x", h)
	}
	if _, _, e := trie.Unprefix([]byte{0x20}[:0]); e != api.ErrNibble {
		t.Errorf("Unprefix: %d", e)
	}
}

func TestWhatIsToldIsTheCallersOwn(t *testing.T) { // P2
	h := animals().with("long", strings.Repeat("v", 40))
	for _, x := range []*trie.Trie{filled(t, h), taken(h)} {
		for key := range h {
			one, _ := x.Get([]byte(key))
			other, _ := x.Get([]byte(key))
			spoil(one, '!')
			wantText(t, "another answer", string(other), h[key])
		}
		all, _ := x.All()
		told := goneOver(x.Each())
		for _, l := range [][]api.Pair{all, told} {
			for i, p := range l {
				spoil(p.Key, byte(2*i))
				spoil(p.Value, byte(2*i+1))
			}
			for i, p := range l {
				for _, b := range p.Key {
					if b != byte(2*i) {
						t.Errorf("key %d shares memory with another answer", i)
					}
				}
				for _, b := range p.Value {
					if b != byte(2*i+1) {
						t.Errorf("value %d shares memory with another answer", i)
					}
				}
			}
			spoil(l, pair("!", "!"))
		}
		want, _ := x.Nodes()
		nodes, _ := x.Nodes()
		for _, n := range nodes {
			spoil(n.Bytes, '!')
		}
		spoil(nodes, api.Node{})
		for _, n := range want {
			if hashOf(n.Bytes) != n.Hash {
				t.Error("Nodes share memory with another answer")
			}
		}
		wantHas(t, "the trie", x, h)
		wantHas(t, "its clone", x.Clone(), h)
	}
}

func TestBytesOfPrefixesAreTheCallersOwn(t *testing.T) { // P2
	for _, l := range [][]byte{nil, {1}, {1, 2}, {1, 2, 3}} {
		b := trie.Prefix(l, true)
		spoil(b, 0xee)
		if !slices.Equal(trie.Prefix(l, true), prefixOf(l, true)) {
			t.Errorf("Prefix of %x", l)
		}
		b = prefixOf(l, true)
		nibbles, _, _ := trie.Unprefix(b)
		spoil(nibbles, 0xee)
		if !slices.Equal(b, prefixOf(l, true)) {
			t.Errorf("Unprefix of %x changed it", b)
		}
		nibbles = trie.Nibbles(b)
		spoil(nibbles, 0xee)
		if !slices.Equal(b, prefixOf(l, true)) {
			t.Errorf("Nibbles of %x changed them", b)
		}
	}
}

func TestNilAndEmptyAreTheSame(t *testing.T) { // P3
	for _, none := range [][]byte{nil, {}, make([]byte, 3)[:0]} {
		for _, x := range []*trie.Trie{filled(t, animals()), taken(animals())} {
			wantGet(t, "none", x, "", animals())
			must(t, x.Put(none, []byte("v")))
			b, e := x.Get(none)
			if string(b) != "v" || e != api.OK {
				t.Errorf("Get: %q, %d", b, e)
			}
			wantHas(t, "an empty key", x, animals().with("", "v"))
			must(t, x.Put([]byte("dog"), none), x.Delete(none))
			wantHas(t, "an empty value", x, animals().without("dog"))
		}
		if h, e := trie.Root([]api.Pair{{Key: none, Value: []byte("v")}}); e != api.OK || h != rootOf(has{"": "v"}) {
			t.Errorf("Root: %x, %d", h, e)
		}
		if trie.ListRoot([][]byte{none, []byte("v"), none}) != rootOf(has{"\x01": "v"}) {
			t.Error("ListRoot")
		}
	}
}
