package trie_test

import (
	"slices"
	"strings"
	"testing"

	"cairn/api"
	"cairn/trie"
)

// Sources that lie: the calls answer something or an error, and end.

// askAll asks a trie everything, of all keys; whatever it answers, it must end.
func askAll(x *trie.Trie, keys ...string) {
	for _, key := range keys {
		x.Get([]byte(key))
		for _, value := range []string{"v", strings.Repeat("v", 40)} {
			y := x.Clone()
			y.Put([]byte(key), []byte(value))
			y.Delete([]byte(key))
			y.Root()
			y.Nodes()
		}
		y := x.Clone()
		y.Delete([]byte(key))
		y.Root()
		y.Nodes()
	}
	x.Root()
	x.Nodes()
}

func TestNodesThatComeBackToThemselves(t *testing.T) { // no walk goes beyond 2 MaxTrieKey nibbles
	deep, _ := longest()
	zeros, ones := make([]byte, 64), slices.Repeat([]byte{0x11}, 64)
	for what, nodes := range map[string][][]byte{
		"an extension":              {form(extOf(ref(1), 1))},
		"a long extension":          {form(extOf(ref(1), 0, 1, 2))},
		"a branch":                  {form(branchOf("", map[int]api.Item{0: ref(1)}))},
		"a branch with all kids":    {form(branchOf("", all(ref(1))))},
		"a branch with its last":    {form(branchOf("", map[int]api.Item{15: ref(1)}))},
		"two of them":               {form(extOf(ref(2), 1)), form(branchOf("", map[int]api.Item{1: ref(1)}))},
		"an extension as long as 2": {form(extOf(ref(1), make([]byte, 128)...))},
		"an extension beyond":       {form(extOf(ref(1), make([]byte, 129)...))},
	} {
		x := lying(nodes...)
		if l, e := x.All(); e != api.ErrNode || len(l) > 0 {
			t.Errorf("%s: All: %d pairs, %d", what, len(l), e)
		}
		for key := range x.Each() {
			if len(key) > api.MaxTrieKey {
				t.Errorf("%s: Each tells %x", what, key)
			}
		}
		for _, key := range [][]byte{nil, {0}, {0x11}, deep, zeros, ones, zeros[:63]} {
			if b, e := x.Get(key); len(b) > 0 || e != api.ErrNone {
				t.Errorf("%s: Get %x: %x, %d", what, key, b, e)
			}
		}
		askAll(x, "", "\x00", "\x11", string(deep), string(zeros), string(ones))
	}
	// What stands ahead of the first node that lies too deep is told.
	x := lying(form(branchOf("v", map[int]api.Item{0: ref(2)})), form(extOf(ref(1), 15)))
	if told := goneOver(x.Each()); len(told) != 65 || string(told[64].Key) != strings.Repeat("\x0f", 64) {
		t.Errorf("%s", line(told))
	}
	_, e := x.All()
	wantErrno(t, "All", e, api.ErrNode)
	wantGet(t, "round and round", x, strings.Repeat("\x0f", 64), has{strings.Repeat("\x0f", 64): "v"})
}

// all are sixteen kids alike.
func all(kid api.Item) map[int]api.Item {
	m := map[int]api.Item{}
	for i := range 16 {
		m[i] = kid
	}
	return m
}

func TestHowDeepNodesLie(t *testing.T) { // a node behind 128 nibbles is one, a deeper one isn't
	at := func(n int) []byte { return form(extOf(ref(2), make([]byte, n)...)) }
	long := strings.Repeat("v", 40)
	for what, c := range map[string]struct {
		nodes [][]byte
		want  api.Errno
		key   int // the bytes of the only key, if there is no error
	}{
		"a leaf behind 128":              {[][]byte{at(128), form(leafOf(long))}, api.OK, 64},
		"a leaf behind 126":              {[][]byte{at(126), form(leafOf(long, 0, 0))}, api.OK, 64},
		"a leaf behind 127":              {[][]byte{at(127), form(leafOf(long, 0))}, api.OK, 64},
		"a leaf behind 129":              {[][]byte{at(129), form(leafOf(long))}, api.ErrNode, 0},
		"a leaf behind 130":              {[][]byte{at(130), form(leafOf(long))}, api.ErrNode, 0},
		"a leaf that goes on":            {[][]byte{at(128), form(leafOf(long, 0, 0))}, api.ErrNode, 0},
		"a short leaf behind 130":        {[][]byte{form(extOf(leafOf("v"), make([]byte, 130)...))}, api.ErrNode, 0},
		"a branch behind 128":            {[][]byte{at(128), form(branchOf(long, nil))}, api.OK, 64},
		"a branch behind 130":            {[][]byte{at(130), form(branchOf(long, nil))}, api.ErrNode, 0},
		"a branch behind 128 with a kid": {[][]byte{at(128), form(branchOf("", map[int]api.Item{3: ref(3)}))}, api.ErrNode, 0},
		"with a kid that is short":       {[][]byte{at(128), form(branchOf("", map[int]api.Item{3: leafOf("v", 1)}))}, api.ErrNode, 0},
		"a node beyond that is missing":  {[][]byte{at(129)}, api.ErrNode, 0},
		"a node there that is missing":   {[][]byte{at(128)}, api.ErrMissing, 0},
		"a leaf of a long key alone":     {[][]byte{form(leafOf("v", make([]byte, 130)...))}, api.ErrNode, 0},
	} {
		x := lying(c.nodes...)
		l, e := x.All()
		wantErrno(t, what+": All", e, c.want)
		if c.want == api.OK && (len(l) != 1 || len(l[0].Key) != c.key || string(l[0].Value) != long) {
			t.Errorf("%s: All: %s", what, line(l))
		}
		if n := len(goneOver(x.Each())); n != len(l) {
			t.Errorf("%s: Each tells %d pairs", what, n)
		}
		askAll(x, "", string(make([]byte, 64)), string(make([]byte, 63)), string(make([]byte, 32)))
	}
}

func TestTheNodeThatIsLeftAloneTooDeep(t *testing.T) { // a Delete doesn't read what lies deeper
	key := make([]byte, 64)
	for what, kid := range map[string]api.Item{"distant": ref(3), "short": leafOf("v", 1)} {
		s := &spy{nodes: map[api.Hash][]byte{
			name(1): form(extOf(ref(2), make([]byte, 128)...)),
			name(2): form(branchOf("v", map[int]api.Item{7: kid})),
			name(3): form(leafOf("v", 1)),
		}}
		x := trie.New(s, name(1))
		wantGet(t, what, x, string(key), has{string(key): "v"})
		wantErrno(t, what, x.Delete(key), api.ErrNode)
		if slices.Contains(s.asked, name(3)) {
			t.Error("the node that lies too deep was asked for")
		}
		wantGet(t, what, x, string(key), has{string(key): "v"})
		wantRoot(t, what, x, name(1))
	}
}

func TestKeysOfHalfBytes(t *testing.T) { // an odd number of nibbles is no key's: something or an error
	for what, nodes := range map[string][][]byte{
		"a leaf":      {form(leafOf("v", 1))},
		"a long leaf": {form(leafOf(strings.Repeat("v", 40), 1, 2, 3))},
		"a branch":    {form(branchOf("", map[int]api.Item{1: leafOf("v"), 2: leafOf("v", 2)}))},
		"a value":     {form(extOf(branchOf("v", map[int]api.Item{1: leafOf("v")}), 1))},
		"below":       {form(extOf(ref(2), 1)), form(leafOf(strings.Repeat("v", 40)))},
	} {
		x := lying(nodes...)
		if l, e := x.All(); e != api.ErrNode || len(l) > 0 {
			t.Errorf("%s: %s, %d", what, line(l), e)
		}
		goneOver(x.Each())
		askAll(x, "", "\x10", "\x11", "\x12", "\x12\x30", "\x22")
	}
}

func TestManyWaysToNothing(t *testing.T) { // P1: a walk ends, though there are 16 to the 128th ways
	s := &spy{nodes: map[api.Hash][]byte{}}
	for i := range byte(128) {
		s.nodes[name(i)] = form(branchOf("", all(ref(i+1))))
	}
	s.nodes[name(128)] = form(branchOf("", nil))
	x := trie.New(s, name(0))
	if l, e := x.All(); e != api.OK || len(l) > 0 {
		t.Errorf("%d pairs, %d", len(l), e)
	}
	if n := len(s.asked); n != 129 {
		t.Errorf("%d nodes read", n)
	}
	wantText(t, "Each", line(goneOver(x.Each())), "")
	// A pair that lies at the end of one way is told, and so is the error behind them.
	s.nodes[name(200)] = form(branchOf("", map[int]api.Item{3: ref(0), 4: ref(201), 5: ref(202)}))
	s.nodes[name(201)] = form(leafOf(strings.Repeat("v", 40), 1))
	s.nodes[name(127)] = form(branchOf("", nil))
	y := trie.New(s, name(200))
	told := goneOver(y.Each())
	if len(told) != 1 || string(told[0].Key) != "\x41" {
		t.Errorf("told %s", line(told))
	}
	_, e := y.All()
	wantErrno(t, "All", e, api.ErrMissing)
}

func TestAnySource(t *testing.T) { // P1: whatever nodes there are, put together at random
	r := row(11)
	for range 3000 {
		nodes := make([][]byte, 1+r.below(4))
		for i := range nodes {
			nodes[i] = form(r.item(3, len(nodes)))
			if r.below(10) == 0 {
				nodes[i] = nodes[i][:r.below(len(nodes[i]))]
			}
		}
		x := lying(nodes...)
		askAll(x, r.key(), r.key(), strings.Repeat(r.key(), 10))
		many := 0
		for range x.Each() {
			if many++; many == 50 {
				break
			}
		}
	}
}

// item is a node, or nearly one, whose kids lie in it or among so many nodes that have names.
func (r *row) item(within, names int) api.Item {
	kid := func() api.Item {
		if within == 0 || r.below(2) == 0 {
			return ref(byte(1 + r.below(names+1)))
		}
		return r.item(within-1, names)
	}
	nibbles := make([]byte, r.below(4))
	for i := range nibbles {
		nibbles[i] = byte(r.below(2))
	}
	switch r.below(8) {
	case 0:
		return text(r.value())
	case 1, 2, 3:
		return leafOf(r.value()[:1], nibbles...)
	case 4:
		return extOf(kid(), nibbles...)
	}
	kids := map[int]api.Item{}
	for range r.below(4) {
		kids[r.below(2)*15] = kid()
	}
	return branchOf([]string{"", "", "v"}[r.below(3)], kids)
}
