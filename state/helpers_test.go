package state_test

import (
	"bytes"
	"encoding/hex"
	"fmt"
	"math/big"
	"slices"
	"strings"
	"testing"

	"cairn/api"
	"cairn/digest"
	"cairn/rlp"
	"cairn/state"
	"cairn/trie"
	"cairn/word"
)

// The addresses and the keys that tests use, in their order: some are unlike in the first byte or limb alone, some in the last.
func addresses() []api.Address {
	return []api.Address{{}, {19: 1}, {19: 2}, {1}, {1, 19: 1}, {255, 255}}
}

func keys() []api.Word {
	return []api.Word{{}, {1}, {1 << 63}, {0, 1}, {2, 0, 0, 1}, {1, 0, 0, 2}, word.Not(api.Word{})}
}

func address(i int) api.Address { return addresses()[i] }

func key(i int) api.Word { return keys()[i] }

func w(n uint64) api.Word { return word.Of(n) }

// most is the greatest word.
func most() api.Word { return word.Not(api.Word{}) }

// account is an account with some of everything.
func account(i int, nonce, balance uint64, code string, slots ...api.Slot) api.Account {
	return api.Account{Address: address(i), Nonce: nonce, Balance: w(balance), Code: []byte(code), Slots: slots}
}

func slot(i int, value uint64) api.Slot { return api.Slot{Key: key(i), Value: w(value)} }

// change is the change that makes an account.
func change(x api.Account) api.Change {
	return api.Change{Address: x.Address, Nonce: x.Nonce, Balance: x.Balance, Code: x.Code, Slots: x.Slots}
}

func changesOf(l []api.Account) []api.Change {
	var c []api.Change
	for _, x := range l {
		c = append(c, change(x))
	}
	return c
}

// some are accounts: one with everything, one with a balance alone, one that is empty, one with slots alone.
func some() []api.Account {
	return []api.Account{
		account(0, 3, 100, "code", slot(1, 11), slot(2, 12), slot(6, 16)),
		account(1, 0, 5, ""),
		account(2, 0, 0, ""),
		account(3, 0, 0, "", slot(1, 31)),
	}
}

// alloc is the base of accounts that may be.
func alloc(l []api.Account) state.Base {
	b, e := state.Alloc(l)
	if e != api.OK {
		panic(e)
	}
	return b
}

// over is a state over some accounts.
func over(l ...api.Account) *state.State { return state.New(alloc(l)) }

// kept is a source that has the trie of accounts, and their codes; and the root.
func kept(l []api.Account) (*trie.Memory, api.Hash) {
	root, nodes, e := state.Root(nil, trie.Empty(), changesOf(l))
	if e != api.OK {
		panic(e)
	}
	m := trie.NewMemory()
	m.Add(nodes)
	m.Add(codesOf(l))
	return m, root
}

func codesOf(l []api.Account) []api.Node {
	var nodes []api.Node
	for _, x := range l {
		if len(x.Code) > 0 {
			nodes = append(nodes, api.Node{Hash: digest.Keccak(x.Code), Bytes: x.Code})
		}
	}
	return nodes
}

// foreign is a base that is none of the package's. It tells memory of its own.
type foreign []api.Account

func (f foreign) Account(a api.Address) (api.Account, bool) {
	for _, x := range f {
		if x.Address == a {
			return x, true
		}
	}
	return api.Account{Address: a, Nonce: 9, Code: []byte("beside false")}, false
}

func (f foreign) Slot(a api.Address, key api.Word) api.Word {
	for _, x := range f {
		for _, s := range x.Slots {
			if x.Address == a && s.Key == key {
				return s.Value
			}
		}
	}
	return api.Word{}
}

// bases are bases of every kind that have the same accounts.
func bases(l []api.Account) map[string]state.Base {
	m, root := kept(l)
	half := len(l) / 2
	return map[string]state.Base{
		"accounts":         alloc(l),
		"a trie":           state.At(m, root),
		"foreign":          foreign(l),
		"over nothing":     state.Over(nil, changesOf(l)),
		"layers":           state.Over(state.Over(alloc(l[:half]), nil), changesOf(l[half:])),
		"over a trie":      state.Over(state.At(nil, trie.Empty()), changesOf(l)),
		"over a foreign":   state.Over(foreign(l), nil),
		"over the foreign": state.Over(foreign(l[half:]), changesOf(l[:half])),
	}
}

// baseText tells all that a base tells of the tests' addresses and keys, but nothing of memory that is nil or empty.
func baseText(b state.Base) string {
	var t strings.Builder
	for _, a := range addresses() {
		x, is := b.Account(a)
		fmt.Fprintf(&t, "%x: %v %s", a, is, accountText(x))
		for _, k := range keys() {
			fmt.Fprintf(&t, " %s", word.Hex(b.Slot(a, k)))
		}
		t.WriteString("\n")
	}
	return t.String()
}

func accountText(x api.Account) string {
	return fmt.Sprintf("%x nonce %d balance %s code %q slots %s", x.Address, x.Nonce, word.Dec(x.Balance), x.Code, slotsText(x.Slots))
}

func slotsText(l []api.Slot) string {
	var parts []string
	for _, s := range l {
		parts = append(parts, word.Hex(s.Key)+": "+word.Hex(s.Value))
	}
	return "{" + strings.Join(parts, ", ") + "}"
}

// changesText tells changes, one a line.
func changesText(l []api.Change) string {
	var t strings.Builder
	for _, c := range l {
		fmt.Fprintf(&t, "%x: gone %v nonce %d balance %s code %q wiped %v slots %s\n",
			c.Address, c.Gone, c.Nonce, word.Dec(c.Balance), c.Code, c.Wiped, slotsText(c.Slots))
	}
	return t.String()
}

func logsText(l []api.Log) string {
	var t strings.Builder
	for _, x := range l {
		fmt.Fprintf(&t, "%x %x %q\n", x.Address, x.Topics, x.Data)
	}
	return t.String()
}

func nodesText(l []api.Node) string {
	var t strings.Builder
	for _, n := range l {
		fmt.Fprintf(&t, "%x: %x\n", n.Hash, n.Bytes)
	}
	return t.String()
}

// stating is all that can be asked of and done to a state: the package's, or the model.
type stating interface {
	Begin()
	End()
	Exists(a api.Address) bool
	Empty(a api.Address) bool
	Nonce(a api.Address) uint64
	Balance(a api.Address) api.Word
	Code(a api.Address) []byte
	CodeHash(a api.Address) api.Hash
	Slot(a api.Address, key api.Word) api.Word
	First(a api.Address, key api.Word) api.Word
	Passing(a api.Address, key api.Word) api.Word
	Used(a api.Address) bool
	Fresh(a api.Address) bool
	SetNonce(a api.Address, n uint64)
	Add(a api.Address, v api.Word) api.Errno
	Sub(a api.Address, v api.Word) api.Errno
	SetCode(a api.Address, code []byte)
	SetSlot(a api.Address, key, value api.Word)
	SetPassing(a api.Address, key, value api.Word)
	Create(a api.Address)
	Destroy(a api.Address)
	Touch(a api.Address)
	Warm(a api.Address) bool
	WarmSlot(a api.Address, key api.Word) bool
	Tell(l api.Log)
	Logs() []api.Log
	Refund() uint64
	AddRefund(by int)
	Mark() int
	Back(mark int) api.Errno
	Changes() []api.Change
}

// told is all that can be asked of a state without changing it, of the tests' addresses and keys.
func told(s stating) string {
	var t strings.Builder
	for _, a := range addresses() {
		fmt.Fprintf(&t, "%x: exists %v empty %v nonce %d balance %s code %q %x used %v fresh %v\n",
			a, s.Exists(a), s.Empty(a), s.Nonce(a), word.Dec(s.Balance(a)), s.Code(a), s.CodeHash(a), s.Used(a), s.Fresh(a))
		for _, k := range keys() {
			fmt.Fprintf(&t, "    %s: %s first %s passing %s\n",
				word.Hex(k), word.Hex(s.Slot(a, k)), word.Hex(s.First(a, k)), word.Hex(s.Passing(a, k)))
		}
	}
	fmt.Fprintf(&t, "refund %d, logs\n%schanges\n%s", s.Refund(), logsText(s.Logs()), changesText(s.Changes()))
	return t.String()
}

// rest is all that can be asked of a state only by changing it: what is warm, and what becomes of it at the End.
func rest(s stating) string {
	var t strings.Builder
	for _, a := range addresses() {
		fmt.Fprintf(&t, "%x: warm %v", a, s.Warm(a))
		for _, k := range keys() {
			fmt.Fprintf(&t, " %v", s.WarmSlot(a, k))
		}
		t.WriteString("\n")
	}
	s.End()
	return t.String() + "behind End:\n" + told(s)
}

// wantTold holds what a state tells against what it should.
func wantTold(t *testing.T, what string, s stating, want string) {
	t.Helper()
	wantText(t, what, told(s), want)
}

func wantChanges(t *testing.T, what string, got []api.Change, want ...api.Change) {
	t.Helper()
	wantText(t, what+": the changes", changesText(got), changesText(want))
}

func wantBase(t *testing.T, what string, got, want state.Base) {
	t.Helper()
	wantText(t, what, baseText(got), baseText(want))
}

func wantErrno(t *testing.T, what string, got, want api.Errno) {
	t.Helper()
	if got != want {
		t.Errorf("%s: got error %d, want %d", what, got, want)
	}
}

func wantTrue(t *testing.T, what string, is bool) {
	t.Helper()
	if !is {
		t.Errorf("%s: it is not so", what)
	}
}

func wantWord(t *testing.T, what string, got, want api.Word) {
	t.Helper()
	if got != want {
		t.Errorf("%s: got %s, want %s", what, word.Hex(got), word.Hex(want))
	}
}

func wantText(t *testing.T, what, got, want string) {
	t.Helper()
	if got != want {
		t.Errorf("%s: got\n%s\nwant\n%s", what, got, want)
	}
}

// must fails the test at once if something that it only prepares is refused.
func must(t *testing.T, es ...api.Errno) {
	t.Helper()
	for i, e := range es {
		if e != api.OK {
			t.Fatalf("preparing: call %d answered %d", i, e)
		}
	}
}

func hexOf(h api.Hash) string { return hex.EncodeToString(h[:]) }

// form is an item's form.
func form(x api.Item) []byte {
	b, e := rlp.Encode(x)
	if e != api.OK {
		panic(e)
	}
	return b
}

// bigOf and wordOf take words to whole numbers and back.
func bigOf(x api.Word) *big.Int {
	b := word.Bytes(x)
	return new(big.Int).SetBytes(b[:])
}

func wordOf(n *big.Int) api.Word {
	x, e := word.Read(n.Bytes())
	if e != api.OK {
		panic(e)
	}
	return x
}

// spoil writes over all that a list has, and what lies behind its length.
func spoil[T any](l []T, with T) {
	l = l[:cap(l)]
	for i := range l {
		l[i] = with
	}
}

// row is a row of numbers that is the same at every run.
type row uint64

func (r *row) below(n int) int {
	*r = *r*6364136223846793005 + 1442695040888963407
	return int(uint64(*r) >> 33 % uint64(n))
}

func (r *row) is(one int) bool { return r.below(one) == 0 }

// pick is one of these.
func pick[T any](r *row, l ...T) T { return l[r.below(len(l))] }

func (r *row) address() api.Address { return pick(r, addresses()...) }

func (r *row) key() api.Word { return pick(r, keys()...) }

func (r *row) code() []byte { return []byte(pick(r, "", "", "a", "code", strings.Repeat("c", 100))) }

func (r *row) balance() api.Word { return pick(r, w(0), w(1), w(2), w(7), most()) }

// value is a slot's value, also 0.
func (r *row) value() api.Word { return pick(r, w(0), w(1), w(2), word.Not(w(1)), api.Word{0, 0, 1}) }

func (r *row) slots(noughts bool) []api.Slot {
	var l []api.Slot
	for _, k := range keys() {
		if v := r.value(); r.is(2) && (noughts || v != w(0)) {
			l = append(l, api.Slot{Key: k, Value: v})
		}
	}
	return l
}

// accounts are some that a base may have.
func (r *row) accounts() []api.Account {
	var l []api.Account
	for _, a := range addresses() {
		if r.is(2) {
			x := api.Account{Address: a, Nonce: uint64(r.below(2)), Balance: r.balance(), Code: r.code(), Slots: r.slots(false)}
			l = append(l, x)
		}
	}
	return l
}

// change is a change of any kind, of one that is Gone often with what counts for nothing then.
func (r *row) change(a api.Address) api.Change {
	if r.is(8) {
		return api.Change{Address: a, Gone: true}
	}
	return api.Change{
		Address: a, Gone: r.is(8), Nonce: uint64(r.below(3)), Balance: r.balance(), Code: r.code(), Wiped: r.is(4), Slots: shuffled(r, r.slots(true)),
	}
}

// changes are some in any order, one an address.
func (r *row) changes() []api.Change {
	var l []api.Change
	for _, a := range addresses() {
		if r.is(2) {
			l = append(l, r.change(a))
		}
	}
	return shuffled(r, l)
}

// shuffled are the same in another order.
func shuffled[T any](r *row, l []T) []T {
	l = slices.Clone(l)
	for i := range l {
		j := r.below(i + 1)
		l[i], l[j] = l[j], l[i]
	}
	return l
}

// sorted are accounts or changes in the order of their addresses.
func sorted[T any](l []T, of func(T) api.Address) []T {
	l = slices.Clone(l)
	slices.SortStableFunc(l, func(x, y T) int {
		a, b := of(x), of(y)
		return bytes.Compare(a[:], b[:])
	})
	return l
}
