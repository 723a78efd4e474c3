package state_test

import (
	"fmt"
	"maps"
	"slices"
	"testing"

	"cairn/api"
	"cairn/digest"
	"cairn/rlp"
	"cairn/state"
	"cairn/trie"
	"cairn/word"
)

// pairsOf are the pairs of a storage trie, by the words of P13.11.
func pairsOf(l []api.Slot) []api.Pair {
	var pairs []api.Pair
	for _, s := range l {
		b := word.Bytes(s.Key)
		pairs = append(pairs, api.Pair{Key: trie.Secure(b[:]), Value: form(rlp.Whole(s.Value))})
	}
	return pairs
}

// statePairs are the pairs of a state's trie, by the words of P13.11.
func statePairs(l []api.Account) []api.Pair {
	var pairs []api.Pair
	for _, x := range l {
		root, e := trie.Root(pairsOf(x.Slots))
		if e != api.OK {
			panic(e)
		}
		code := digest.Keccak(x.Code)
		value := form(rlp.List(rlp.Number(x.Nonce), rlp.Whole(x.Balance), rlp.Text(root[:]), rlp.Text(code[:])))
		pairs = append(pairs, api.Pair{Key: trie.Secure(x.Address[:]), Value: value})
	}
	return pairs
}

// rootOf is the root of accounts, nodesOf all nodes of their tries.
func rootOf(l []api.Account) api.Hash {
	root, e := trie.Root(statePairs(l))
	if e != api.OK {
		panic(e)
	}
	return root
}

func nodesOf(l []api.Account) map[api.Hash][]byte {
	m := map[api.Hash][]byte{}
	lists := [][]api.Pair{statePairs(l)}
	for _, x := range l {
		lists = append(lists, pairsOf(x.Slots))
	}
	for _, pairs := range lists {
		x := trie.New(nil, trie.Empty())
		for _, p := range pairs {
			x.Put(p.Key, p.Value)
		}
		nodes, _ := x.Nodes()
		for _, n := range nodes {
			m[n.Hash] = n.Bytes
		}
	}
	return m
}

// listed are nodes in the order of their hashes, but those of had.
func listed(m, had map[api.Hash][]byte) []api.Node {
	var l []api.Node
	for h, b := range m {
		if _, is := had[h]; !is {
			l = append(l, api.Node{Hash: h, Bytes: b})
		}
	}
	slices.SortFunc(l, func(x, y api.Node) int { return slices.Compare(x.Hash[:], y.Hash[:]) })
	return l
}

// accountsOf are the accounts that a base has of the tests' addresses and keys.
func accountsOf(b state.Base) []api.Account {
	var l []api.Account
	for _, a := range addresses() {
		x, is := b.Account(a)
		if !is {
			continue
		}
		for _, k := range keys() {
			if v := b.Slot(a, k); v != w(0) {
				x.Slots = append(x.Slots, api.Slot{Key: k, Value: v})
			}
		}
		l = append(l, x)
	}
	return l
}

// wantRoot holds Root of changes, over a source that has the accounts of before, against the accounts that they should come to.
func wantRoot(t *testing.T, what string, src trie.Source, root api.Hash, l []api.Change, before, want []api.Account) []api.Node {
	t.Helper()
	h, nodes, e := state.Root(src, root, l)
	wantErrno(t, what, e, api.OK)
	wantText(t, what+": the root", hexOf(h), hexOf(rootOf(want)))
	wantText(t, what+": the nodes", nodesText(nodes), nodesText(listed(nodesOf(want), nodesOf(before))))
	return nodes
}

func TestRoot(t *testing.T) { // P13.11
	a := address(0)
	without := func(i int) []api.Account { return slices.Delete(some(), i, i+1) }
	with := func(x api.Account) []api.Account {
		l := some()
		l[0] = x
		return l
	}
	old := some()[0].Slots
	for what, x := range map[string]struct {
		l    []api.Change
		want []api.Account
	}{
		"nothing":               {nil, some()},
		"what is there already": {changesOf(some()), some()},
		"gone":                  {[]api.Change{{Address: a, Gone: true}}, without(0)},
		"gone that never was":   {[]api.Change{{Address: address(5), Gone: true}}, some()},
		"changed":               {[]api.Change{{Address: a, Nonce: 9, Balance: w(9), Code: []byte("new")}}, with(account(0, 9, 9, "new", old...))},
		"the greatest":          {[]api.Change{{Address: a, Nonce: 1<<64 - 1, Balance: most()}}, with(api.Account{Address: a, Nonce: 1<<64 - 1, Balance: most(), Slots: old})},
		"empty":                 {[]api.Change{{Address: a}}, with(account(0, 0, 0, "", old...))},
		"a slot more":           {[]api.Change{{Address: a, Slots: []api.Slot{slot(3, 5)}}}, with(account(0, 0, 0, "", append(old, slot(3, 5))...))},
		"a slot less":           {[]api.Change{{Address: a, Slots: []api.Slot{slot(1, 0)}}}, with(account(0, 0, 0, "", old[1:]...))},
		"no slot any more":      {[]api.Change{{Address: a, Slots: []api.Slot{slot(1, 0), slot(2, 0), slot(6, 0)}}}, with(account(0, 0, 0, ""))},
		"a slot that never was": {[]api.Change{{Address: a, Slots: []api.Slot{slot(4, 0)}}}, with(account(0, 0, 0, "", old...))},
		"wiped":                 {[]api.Change{{Address: a, Wiped: true}}, with(account(0, 0, 0, ""))},
		"wiped, with slots":     {[]api.Change{{Address: a, Wiped: true, Slots: []api.Slot{slot(2, 7), slot(1, 0)}}}, with(account(0, 0, 0, "", slot(2, 7)))},
		"wiped, as it was":      {[]api.Change{{Address: a, Nonce: 3, Balance: w(100), Code: []byte("code"), Wiped: true, Slots: old}}, some()},
		"new":                   {[]api.Change{{Address: address(4), Nonce: 1, Slots: []api.Slot{slot(1, 1), slot(2, 0)}}}, append(some(), account(4, 1, 0, "", slot(1, 1)))},
		"several of one address": {[]api.Change{{Address: a, Slots: []api.Slot{slot(4, 4)}}, {Address: address(1), Gone: true}, {Address: a, Nonce: 2, Slots: []api.Slot{slot(5, 5)}}},
			slices.Delete(with(account(0, 2, 0, "", append(old, slot(4, 4), slot(5, 5))...)), 1, 2)},
		"gone and made anew":       {[]api.Change{{Address: a, Gone: true}, {Address: a, Nonce: 2}}, with(account(0, 2, 0, ""))},
		"several slots of one key": {[]api.Change{{Address: a, Slots: []api.Slot{slot(1, 5), slot(1, 0), slot(2, 0), slot(2, 9)}}}, with(account(0, 0, 0, "", slot(2, 9), old[2]))},
		"all gone":                 {[]api.Change{{Address: address(3), Gone: true}, {Address: a, Gone: true}, {Address: address(1), Gone: true}, {Address: address(2), Gone: true}}, nil},
	} {
		m, root := kept(some())
		wantRoot(t, what, m, root, x.l, some(), x.want)
	}
	wantRoot(t, "of nothing", nil, trie.Empty(), changesOf(some()), nil, some())
	wantRoot(t, "of nothing, in another order", trie.NewMemory(), trie.Empty(), shuffled(new(row), changesOf(some())), nil, some())
	wantRoot(t, "nothing of nothing", nil, trie.Empty(), nil, nil, nil)
	wantRoot(t, "nothing left", nil, trie.Empty(), []api.Change{{Gone: true}}, nil, nil)
}

func TestNodesOfTwoAccountsAlike(t *testing.T) { // P13.11: each once, and none that the source has
	slots := []api.Slot{slot(1, 1), slot(2, 2), slot(3, 3), slot(4, 4)}
	l := []api.Account{account(0, 1, 1, "", slots...), account(1, 2, 2, "", slots...), account(2, 3, 3, "", slots[:2]...)}
	nodes := wantRoot(t, "alike", nil, trie.Empty(), changesOf(l), nil, l)
	m := trie.NewMemory()
	m.Add(nodes)
	root := rootOf(l)
	for _, x := range []api.Account{account(3, 5, 5, "", slots...), account(3, 5, 5, "", slots[:2]...), account(3, 5, 5, "", slots[2:]...)} {
		wantRoot(t, "one more", m, root, []api.Change{change(x)}, l, append(slices.Clone(l), x))
	}
	wantRoot(t, "back to what is there", m, root, changesOf(l), l, l)
}

func TestRootByItsWords(t *testing.T) { // P13.11, P13.14
	r := row(11)
	for range 60 {
		l := r.accounts()
		had := nodesOf(l)
		root := rootOf(l)
		for range 4 {
			changes := r.changes()
			l = accountsOf(state.Over(alloc(l), changes))
			h, nodes, e := state.Root(lacking{nodes: had}, root, changes)
			wantErrno(t, "by its words", e, api.OK)
			wantText(t, "the root", hexOf(h), hexOf(rootOf(l)))
			wantText(t, "the nodes", nodesText(nodes), nodesText(listed(nodesOf(l), had)))
			maps.Copy(had, nodesOf(l))
			root = h
		}
	}
}

// lacking is a source without one node, or one that tells other bytes there.
type lacking struct {
	nodes map[api.Hash][]byte
	not   api.Hash
	bytes []byte // nil: none
}

func (l lacking) Node(h api.Hash) ([]byte, api.Errno) {
	b, is := l.nodes[h]
	switch {
	case h == l.not && l.bytes != nil:
		return l.bytes, api.OK
	case h == l.not || !is:
		return nil, api.ErrNone
	}
	return b, api.OK
}

// all are all nodes of accounts, with their codes.
func all(l []api.Account) map[api.Hash][]byte {
	m := nodesOf(l)
	for _, n := range codesOf(l) {
		m[n.Hash] = n.Bytes
	}
	return m
}

func TestRootOfNodesThatAreMissing(t *testing.T) { // P13.11: trie's errors, and nothing beside them
	var l []api.Account
	for i := range 20 {
		x := api.Account{Address: api.Address{byte(i)}, Nonce: 1, Code: []byte{byte(i)}}
		for j := range 6 {
			x.Slots = append(x.Slots, api.Slot{Key: w(uint64(j)), Value: w(uint64(100*i + j + 1))})
		}
		l = append(l, x)
	}
	everything := []api.Change{}
	for i, x := range l {
		c := api.Change{Address: x.Address, Nonce: 2}
		for _, s := range x.Slots {
			c.Slots = append(c.Slots, api.Slot{Key: s.Key, Value: w(uint64(i + 5))})
		}
		everything = append(everything, c)
	}
	nodes, root := all(l), rootOf(l)
	missing := 0
	for h := range nodesOf(l) {
		for _, x := range []struct {
			bytes []byte
			want  api.Errno
		}{{nil, api.ErrMissing}, {[]byte{1, 2, 3}, api.ErrNode}, {[]byte{0x80}, api.ErrNode}} {
			src := lacking{nodes: nodes, not: h, bytes: x.bytes}
			got, told, e := state.Root(src, root, everything)
			if e != x.want || got != (api.Hash{}) || len(told) > 0 {
				t.Errorf("%x: %d, %x, %d nodes", h, e, got, len(told))
			}
			if h, told, e := state.Root(src, root, nil); e != api.OK || h != root || len(told) > 0 {
				t.Errorf("nothing is asked for: %d, %x, %d nodes", e, h, len(told))
			}
			missing++
		}
	}
	if missing < 100 {
		t.Errorf("only %d nodes", missing)
	}
	for _, n := range codesOf(l) { // codes aren't asked for
		if _, _, e := state.Root(lacking{nodes: nodes, not: n.Hash}, root, everything); e != api.OK {
			t.Errorf("a code: %d", e)
		}
	}
	for what, src := range map[string]trie.Source{"nil": nil, "nobody's": (*trie.Memory)(nil), "one that panics": panicking{}} {
		h, told, e := state.Root(src, root, everything)
		wantErrno(t, what, e, api.ErrMissing)
		wantTrue(t, what+": nothing beside it", h == (api.Hash{}) && len(told) == 0)
	}
}

// panicking is a source that panics.
type panicking struct{}

func (panicking) Node(api.Hash) ([]byte, api.Errno) { panic("no node") }

// misread are values that are no account's.
func misread() map[string][]byte {
	hash := rlp.Text(make([]byte, 32))
	long, short := rlp.Text(make([]byte, 33)), rlp.Text(make([]byte, 31))
	one := rlp.Number(1)
	return map[string][]byte{
		"no form":                {0xc1},
		"a text":                 form(rlp.Text([]byte("text"))),
		"an empty list":          form(rlp.List()),
		"three":                  form(rlp.List(one, one, hash)),
		"five":                   form(rlp.List(one, one, hash, hash, hash)),
		"a nonce with noughts":   form(rlp.List(rlp.Text([]byte{0, 1}), one, hash, hash)),
		"a nonce that is long":   form(rlp.List(rlp.Text([]byte{1, 2, 3, 4, 5, 6, 7, 8, 9}), one, hash, hash)),
		"a nonce that is a list": form(rlp.List(rlp.List(), one, hash, hash)),
		"a balance with noughts": form(rlp.List(one, rlp.Text([]byte{0}), hash, hash)),
		"a balance that is long": form(rlp.List(one, rlp.Text(append([]byte{1}, make([]byte, 32)...)), hash, hash)),
		"a root that is long":    form(rlp.List(one, one, long, hash)),
		"a root that is short":   form(rlp.List(one, one, short, hash)),
		"a root that is a list":  form(rlp.List(one, one, rlp.List(), hash)),
		"a code that is long":    form(rlp.List(one, one, hash, long)),
		"a code that is short":   form(rlp.List(one, one, hash, short)),
		"something behind it":    append(form(rlp.List(one, one, hash, hash)), 0),
	}
}

// planted is a trie, kept, in which an account has that value.
func planted(value []byte) (*trie.Memory, api.Hash) {
	m, root := kept(some())
	x := trie.New(m, root)
	a := address(4)
	if e := x.Put(trie.Secure(a[:]), value); e != api.OK {
		panic(e)
	}
	nodes, _ := x.Nodes()
	m.Add(nodes)
	root, _ = x.Root()
	return m, root
}

func TestAValueThatIsNoAccount(t *testing.T) { // P13.11: to Root ErrNode, to At not there
	for what, value := range misread() {
		m, root := planted(value)
		wantBase(t, what+", At", state.At(m, root), alloc(some()))
		h, nodes, e := state.Root(m, root, []api.Change{{Address: address(4), Nonce: 1}})
		wantErrno(t, what, e, api.ErrNode)
		wantTrue(t, what+": nothing beside it", h == (api.Hash{}) && len(nodes) == 0)
		_, _, e = state.Root(m, root, []api.Change{{Address: address(3), Nonce: 1}})
		wantErrno(t, what+", of another", e, api.OK)
		// What was there counts for nothing where it is gone, or nothing of its slots is left.
		h, _, e = state.Root(m, root, []api.Change{{Address: address(4), Gone: true}})
		wantTrue(t, what+", gone", e == api.OK && h == rootOf(some()))
		h, _, e = state.Root(m, root, []api.Change{{Address: address(4), Nonce: 1, Wiped: true}})
		wantTrue(t, what+", wiped", e == api.OK && h == rootOf(append(some(), account(4, 1, 0, ""))))
	}
}

func TestAt(t *testing.T) { // P13.11
	m, root := kept(some())
	wantBase(t, "At", state.At(m, root), alloc(some()))
	wantBase(t, "At of nothing", state.At(m, trie.Empty()), alloc(nil))
	wantBase(t, "At of nothing, without a source", state.At(nil, trie.Empty()), alloc(nil))
	for what, b := range map[string]state.Base{
		"no such root": state.At(m, api.Hash{1}), "no source": state.At(nil, root), "nobody's": state.At((*trie.Memory)(nil), root),
		"one that panics": state.At(panicking{}, root), "a root that is a code": state.At(m, digest.Keccak([]byte("code"))),
	} {
		wantBase(t, what, b, alloc(nil))
	}
}

// codeless is a source that fails, in some way, where it is asked for a code.
type codeless struct {
	trie.Source
	code api.Hash
	fail func() ([]byte, api.Errno)
}

func (c codeless) Node(h api.Hash) ([]byte, api.Errno) {
	if h == c.code {
		return c.fail()
	}
	return c.Source.Node(h)
}

func TestAtOfCodesThatAreNotTold(t *testing.T) { // P13.11, P1: the account is there without code
	want := some()
	want[0].Code = nil
	m, root := kept(some())
	for what, fail := range map[string]func() ([]byte, api.Errno){
		"nothing":                func() ([]byte, api.Errno) { return nil, api.ErrNone },
		"bytes beside an error":  func() ([]byte, api.Errno) { return []byte("beside"), api.ErrNone },
		"another error":          func() ([]byte, api.Errno) { return []byte("beside"), api.ErrIO },
		"no bytes, and no error": func() ([]byte, api.Errno) { return nil, api.OK },
		"a panic":                func() ([]byte, api.Errno) { panic("no code") },
	} {
		src := codeless{Source: m, code: digest.Keccak([]byte("code")), fail: fail}
		wantBase(t, what, state.At(src, root), alloc(want))
	}
}

// counting is a source that remembers what it was asked for.
type counting struct {
	src   trie.Source
	asked map[api.Hash]int
}

func (c counting) Node(h api.Hash) ([]byte, api.Errno) {
	c.asked[h]++
	return c.src.Node(h)
}

func TestAtAsksForCodes(t *testing.T) { // P13.11: of no code nothing is asked
	m, root := kept(some())
	src := counting{src: m, asked: map[api.Hash]int{}}
	b := state.At(src, root)
	if len(src.asked) != 0 {
		t.Error("At asks")
	}
	baseText(b)
	if src.asked[digest.Keccak(nil)] != 0 || src.asked[digest.Keccak([]byte("code"))] == 0 || src.asked[trie.Empty()] != 0 {
		t.Errorf("asked for %v", src.asked)
	}
}

func TestAtOfWhatIsMissing(t *testing.T) { // P13.11: what can't be read is not there
	l := append(some(), account(4, 1, 4, "code"), account(5, 1, 5, "other", slot(1, 51), slot(2, 52)))
	nodes, root := all(l), rootOf(l)
	base := func(not api.Hash, b []byte) state.Base {
		return state.At(lacking{nodes: nodes, not: not, bytes: b}, root)
	}
	want := slices.Clone(l)
	want[0].Code, want[4].Code = nil, nil
	wantBase(t, "a code", base(digest.Keccak([]byte("code")), nil), alloc(want))
	want[0].Code, want[4].Code = []byte{1}, []byte{1}
	wantBase(t, "a code is what is told", base(digest.Keccak([]byte("code")), []byte{1}), alloc(want))
	for i, x := range l {
		if len(x.Slots) == 0 {
			continue
		}
		storage, e := trie.Root(pairsOf(x.Slots))
		must(t, e)
		want := slices.Clone(l)
		want[i].Slots = nil
		wantBase(t, "a storage trie", base(storage, nil), alloc(want))
		wantBase(t, "a storage trie that is none", base(storage, []byte{5}), alloc(want))
	}
	wantBase(t, "the root", base(root, nil), alloc(nil))
	wantBase(t, "a root that is none", base(root, []byte{0x80}), alloc(nil))
	for h := range nodes { // whatever is missing, the rest is told
		b := base(h, nil)
		for _, a := range addresses() {
			got, is := b.Account(a)
			x, _ := alloc(l).Account(a)
			if is && (got.Nonce != x.Nonce || got.Balance != x.Balance || len(got.Code) > 0 && string(got.Code) != string(x.Code)) {
				t.Errorf("%x: %s, want %s", h, accountText(got), accountText(x))
			}
			for _, k := range keys() {
				if v := b.Slot(a, k); v != w(0) && (!is || v != alloc(l).Slot(a, k)) {
					t.Errorf("%x: a slot: %s", h, word.Hex(v))
				}
			}
		}
	}
}

func TestAtOfSlotsThatAreNone(t *testing.T) { // P13.11
	for what, value := range map[string][]byte{
		"no form": {0xc1}, "a list": {0xc0}, "noughts ahead": {0x82, 0, 1}, "too long": append([]byte{0xa1, 1}, make([]byte, 32)...),
		"0": {0x80}, "something behind it": {1, 1}, "a byte of 0": {0},
	} {
		x := trie.New(nil, trie.Empty())
		pairs := pairsOf([]api.Slot{slot(1, 1), slot(2, 2)})
		must(t, x.Put(pairs[0].Key, value), x.Put(pairs[1].Key, pairs[1].Value))
		storage, e := x.Root()
		must(t, e)
		code := digest.Keccak(nil)
		m, root := planted(form(rlp.List(rlp.Number(1), rlp.Number(2), rlp.Text(storage[:]), rlp.Text(code[:]))))
		nodes, e := x.Nodes()
		must(t, e)
		m.Add(nodes)
		wantBase(t, what, state.At(m, root), alloc(append(some(), account(4, 1, 2, "", slot(2, 2)))))
		h, _, e := state.Root(m, root, []api.Change{{Address: address(4), Slots: []api.Slot{slot(1, 7)}}}) // what is there is not looked at
		wantErrno(t, what, e, api.OK)
		wantText(t, what, hexOf(h), hexOf(rootOf(append(some(), account(4, 0, 0, "", slot(1, 7), slot(2, 2))))))
	}
}

func TestAtGoesWithItsSource(t *testing.T) { // P13.11: nothing is kept of what is missing
	nodes := all(some())
	src := lacking{nodes: maps.Clone(nodes), not: api.Hash{}}
	clear(src.nodes)
	b := state.At(src, rootOf(some()))
	wantBase(t, "nothing there", b, alloc(nil))
	maps.Copy(src.nodes, nodes)
	wantBase(t, "all there", b, alloc(some()))
}

func TestRootOfManyAccounts(t *testing.T) { // P13.11, P13.14
	var l []api.Account
	for i := range 500 {
		h := digest.Keccak([]byte(fmt.Sprint(i)))
		x := api.Account{Address: api.Address(h[:20]), Nonce: uint64(i), Balance: w(uint64(i * i))}
		for j := range i % 7 {
			x.Slots = append(x.Slots, api.Slot{Key: api.Word{0, uint64(j)}, Value: w(uint64(i))})
		}
		l = append(l, x)
	}
	m := trie.NewMemory()
	root := trie.Empty()
	for part := range slices.Chunk(changesOf(l), 90) {
		h, nodes, e := state.Root(m, root, part)
		must(t, e)
		m.Add(nodes)
		root = h
	}
	wantText(t, "in parts", hexOf(root), hexOf(rootOf(l)))
	b := state.At(m, root)
	for _, x := range l {
		got, is := b.Account(x.Address)
		for _, s := range x.Slots {
			wantWord(t, "a slot", b.Slot(x.Address, s.Key), s.Value)
		}
		x.Slots = nil
		wantTrue(t, "it is there", is)
		wantText(t, "an account", accountText(got), accountText(x))
	}
}
