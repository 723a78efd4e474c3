package trie_test

import (
	"bytes"
	"slices"
	"strings"
	"testing"

	"cairn/api"
	"cairn/trie"
)

// noNodes are bytes that are no node's form.
func noNodes() map[string][]byte {
	leaf, hash := leafOf("v", 1), strings.Repeat("h", 32)
	long := leafOf(strings.Repeat("v", 29)) // its form has 32 bytes
	many := func(n int) api.Item { return list(make([]api.Item, n)...) }
	branch := func(at int, kid api.Item) api.Item { return branchOf("v", map[int]api.Item{0: leaf, at: kid}) }
	value := func(kid api.Item) api.Item { b := branchOf("", nil); b.Kids[16] = kid; return b }
	return map[string][]byte{
		"no bytes":                         nil,
		"a byte":                           {5},
		"the empty text":                   {0x80},
		"a text":                           form(text("a longer text")),
		"a form cut off":                   form(leaf)[:len(form(leaf))-1],
		"a form with more behind":          append(form(leaf), 0),
		"not the shortest form":            {0xc3, 0x20, 0x81, 0x05},
		"not the shortest form of lengths": append([]byte{0xf8, 3}, form(leafOf("abc"))[1:]...),
		"the empty list":                   form(list()),
		"a list of 1":                      form(list(text(" "))),
		"a list of 3":                      form(list(text(" "), text("v"), text("v"))),
		"a list of 16":                     form(many(16)),
		"a list of 18":                     form(many(18)),
		"lists within lists":               bytes.Repeat([]byte{0xc1}, 70),

		"no prefix":                   form(list(text(""), text("v"))),
		"a prefix that is a list":     form(list(list(), text("v"))),
		"a prefix in a list":          form(list(list(text(" ")), text("v"))),
		"flags of 4":                  form(list(text("\x40"), text("v"))),
		"flags of 15":                 form(list(text("\xf0\x00"), text("v"))),
		"a leaf's flags with a rest":  form(list(text("\x21"), text("v"))),
		"an even prefix with a rest":  form(list(text("\x01\x23"), text(hash))),
		"a leaf without a value":      form(leafOf("", 1)),
		"a leaf with an empty list":   form(list(text(" "), list())),
		"a leaf with a list":          form(list(text(" "), leaf)),
		"an extension of no nibbles":  form(extOf(text(hash))),
		"an extension to nothing":     form(extOf(text(""), 1)),
		"an extension to 1 byte":      form(extOf(text("h"), 1)),
		"an extension to 31 bytes":    form(extOf(text(hash[1:]), 1)),
		"an extension to 33 bytes":    form(extOf(text(hash+"h"), 1)),
		"an extension to a list":      form(extOf(list(), 1)),
		"an extension to no node":     form(extOf(list(text("\x40"), text("v")), 1)),
		"an extension to a long node": form(extOf(long, 1)),

		"a branch with a list for a value": form(value(list())),
		"a branch with a node for a value": form(value(leaf)),
		"a branch with 1 byte":             form(branch(3, text("h"))),
		"a branch with 31 bytes":           form(branch(15, text(hash[1:]))),
		"a branch with 33 bytes":           form(branch(0, text(hash+"h"))),
		"a branch with a list":             form(branch(15, list())),
		"a branch with a list of 1":        form(branch(9, list(text("v")))),
		"a branch with no node":            form(branch(7, leafOf(""))),
		"a branch with a long node":        form(branch(1, long)),
		"no node within nodes":             form(branch(2, extOf(extOf(leafOf(""), 1), 1))),
	}
}

func TestNoNodes(t *testing.T) { // P12.3
	for what, b := range noNodes() {
		if isNodes(b) {
			t.Fatalf("%s is a node", what)
		}
		x := lying(b)
		for range 2 {
			wantAllErrors(t, what, x, "\x77", api.ErrNode)
			wantAllErrors(t, what, x, "", api.ErrNode)
			wantText(t, what+": Each", line(goneOver(x.Each())), "")
			wantRoot(t, what, x, name(1))
			wantNodes(t, what, x, nil)
		}
		// Further down likewise, whichever way leads there.
		below := lying(form(extOf(ref(2), 7)), b)
		wantAllErrors(t, what+", below an extension", below, "\x77", api.ErrNode)
		wantErrno(t, what, second(below.Get([]byte{0x17})), api.ErrNone)
		below = lying(form(branchOf("v", map[int]api.Item{7: ref(2), 8: leafOf("w", 1)})), b)
		wantAllErrors(t, what+", below a branch", below, "\x77", api.ErrNode)
		wantGet(t, what, below, "\x81", has{"\x81": "w"})
		wantText(t, what+": Each", line(goneOver(below.Each())), `: "v"`)
	}
}

func second(_ []byte, e api.Errno) api.Errno { return e }

func TestNodesAsTheyStand(t *testing.T) { // P12.3: what a map can't come to is read, too; no hash is compared with the bytes
	long := strings.Repeat("v", 40)
	short := leafOf("w", 1)
	for _, c := range []struct {
		what  string
		nodes []api.Item
		want  has
	}{
		{"a leaf", []api.Item{leafOf("v", 1, 2)}, has{"\x12": "v"}},
		{"a leaf of no nibbles", []api.Item{leafOf("v")}, has{"": "v"}},
		{"a leaf of 1 byte below 128", []api.Item{leafOf("\x00", 1, 2)}, has{"\x12": "\x00"}},
		{"an empty branch", []api.Item{branchOf("", nil)}, has{}},
		{"a branch with a value", []api.Item{branchOf("v", nil)}, has{"": "v"}},
		{"a branch with one kid", []api.Item{branchOf("", map[int]api.Item{15: short})}, has{"\xf1": "w"}},
		{"a branch with one distant kid", []api.Item{branchOf("", map[int]api.Item{3: ref(2)}), leafOf(long, 1)}, has{"\x31": long}},
		{"an extension to a leaf", []api.Item{extOf(short, 5)}, has{"\x51": "w"}},
		{"an extension to a distant leaf", []api.Item{extOf(ref(2), 5), short}, has{"\x51": "w"}},
		{"an extension to an extension", []api.Item{extOf(extOf(leafOf("w", 6), 5), 1, 2)}, has{"\x12\x56": "w"}},
		{"an extension to a distant extension", []api.Item{extOf(ref(2), 1, 2), extOf(ref(3), 5), leafOf("w", 6)}, has{"\x12\x56": "w"}},
		{"an extension to an empty branch", []api.Item{extOf(branchOf("", nil), 5)}, has{}},
		{"a node that lies twice", []api.Item{branchOf("", map[int]api.Item{1: ref(2), 2: ref(2)}), leafOf("w", 3)}, has{"\x13": "w", "\x23": "w"}},
		{"a node of 31 bytes", []api.Item{extOf(leafOf(strings.Repeat("v", 28), 2), 1)}, has{"\x12": strings.Repeat("v", 28)}},
		{"a value that is a form", []api.Item{leafOf(string(form(short)), 1, 2)}, has{"\x12": string(form(short))}},
		{"a value of 32 bytes", []api.Item{branchOf(strings.Repeat("h", 32), map[int]api.Item{1: short})}, has{"": strings.Repeat("h", 32), "\x11": "w"}},
	} {
		var nodes [][]byte
		for _, x := range c.nodes {
			nodes = append(nodes, form(x))
		}
		x := lying(nodes...)
		l, e := x.All()
		wantErrno(t, c.what, e, api.OK)
		wantText(t, c.what, line(l), line(c.want.pairs()))
		wantText(t, c.what, line(goneOver(x.Each())), line(c.want.pairs()))
		for _, key := range []string{"", "\x12", "\x13", "\x11", "\x31", "\x51", "\x52", "\xf1", "\xff", "\x12\x56"} {
			wantGet(t, c.what, x, key, c.want)
		}
		wantRoot(t, c.what, x, name(1))
		for key := range c.want { // and changed as it stands
			y := x.Clone()
			must(t, y.Put([]byte(key), []byte("new")))
			wantGet(t, c.what, y, key, has{key: "new"})
			must(t, y.Delete([]byte(key)))
			l, e := y.All()
			wantErrno(t, c.what, e, api.OK)
			wantText(t, c.what, line(l), line(c.want.without(key).pairs()))
		}
	}
}

func TestTakenNodes(t *testing.T) { // P12.3, against the chapter's words: nodes with a byte changed, left out or put in
	r := row(4)
	taken, refused := 0, 0
	for range 300 {
		for _, b := range nodesOf(r.has(8)) {
			b = slices.Clone(b)
			switch at := r.below(len(b)); r.below(4) {
			case 0:
				b[at] = byte(r.below(256))
			case 1:
				b[at] ^= 1 << r.below(8)
			case 2:
				b = slices.Delete(b, at, at+1)
			case 3:
				b = slices.Insert(b, at, byte(r.below(256)))
			}
			want := isNodes(b)
			if want {
				taken++
			} else {
				refused++
			}
			x := lying(b)
			if _, e := x.Get([]byte{0x12}); want != (e != api.ErrNode) {
				t.Errorf("%x: a node %v, Get %d", b, want, e)
			}
			if l, _ := x.All(); !want && len(l) > 0 {
				t.Errorf("%x: All tells %s", b, line(l))
			}
		}
	}
	if taken < 100 || refused < 100 {
		t.Errorf("%d taken, %d refused: that says little", taken, refused)
	}
}

func TestItemsTakenAsNodes(t *testing.T) { // P12.3, against the chapter's words: items put together out of parts
	r := row(5)
	parts := []api.Item{text(""), text(" "), text("\x00"), text("\x11"), text("\x20\x12"), text("\x00\x12"), text("\x3f"), text("\x40"), text("v"),
		text(strings.Repeat("h", 31)), text(strings.Repeat("h", 32)), text(strings.Repeat("h", 33)), list(), text("\x21\x00"), text("\x10\x00")}
	kinds := map[bool]int{}
	for range 20000 {
		x := parts[r.below(len(parts))]
		for range r.below(4) {
			other := parts[r.below(len(parts))]
			switch r.below(3) {
			case 0:
				x = list(other, x)
			case 1:
				x = list(x, other)
			case 2:
				b := branchOf("", map[int]api.Item{r.below(16): x, r.below(16): other})
				if r.below(3) == 0 {
					b.Kids[16] = other
				}
				x = b
			}
		}
		b := form(x)
		want := isNode(x)
		kinds[want]++
		if _, e := lying(b).Get([]byte{0xee}); want != (e != api.ErrNode) {
			t.Errorf("%x: a node %v, Get %d", b, want, e)
		}
	}
	if kinds[true] < 500 || kinds[false] < 500 {
		t.Errorf("%v: that says little", kinds)
	}
}

func TestShortAndLongNodes(t *testing.T) { // 12.1: a form of 31 bytes stands itself, one of 32 is told by hash
	for long, many := range map[int]int{27: 1, 28: 1, 29: 2, 30: 2} {
		value := strings.Repeat("v", long)
		h := has{"\x10": value, "\x20": "w"}
		leaf := leafOf(value, 0)
		if n := len(form(leaf)); n != long+3 {
			t.Fatalf("a leaf of %d bytes", n)
		}
		want := branchOf("", map[int]api.Item{1: leaf, 2: leafOf("w", 0)})
		if many == 2 {
			h := hashOf(form(leaf))
			want.Kids[1] = text(string(h[:]))
		}
		x := filled(t, h)
		wantRoot(t, "a short node", x, hashOf(form(want)))
		if l, e := x.Nodes(); len(l) != many || e != api.OK {
			t.Errorf("%d: %d nodes, %d", long, len(l), e)
		}
		wantHas(t, "filled", x, h)
		y := taken(h)
		wantHas(t, "taken up", y, h)
		must(t, y.Put([]byte{0x10}, []byte("short")))
		wantHas(t, "made short", y, h.with("\x10", "short"))
		must(t, y.Put([]byte{0x10}, []byte(value)))
		wantRoot(t, "as it was", y, rootOf(h))
		wantNodes(t, "as it was", y, nil)
	}
}

func hashOf(b []byte) api.Hash { return api.Hash(trie.Secure(b)) }
