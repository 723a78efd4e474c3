package state_test

import (
	"testing"

	"cairn/api"
	"cairn/digest"
	"cairn/rlp"
	"cairn/state"
	"cairn/trie"
)

// The hash of a first block that is known elsewhere, of a state with one account that has a slot. All else in its header is as it mostly
// is, so that the hash says whether the root of the state is right.
func TestRootIsAsKnownElsewhere(t *testing.T) { // P13.11
	high := api.Word{3: 1 << 56} // of which the first byte is 1
	root, _, e := state.Root(nil, trie.Empty(), []api.Change{{
		Address: api.Address{1}, Balance: api.Word{1}, Slots: []api.Slot{{Key: high, Value: high}},
	}})
	must(t, e)
	none, noUncles := trie.Empty(), digest.Keccak([]byte{0xc0})
	form, e := rlp.Encode(rlp.List(
		rlp.Text(make([]byte, 32)), rlp.Text(noUncles[:]), rlp.Text(make([]byte, 20)),
		rlp.Text(root[:]), rlp.Text(none[:]), rlp.Text(none[:]), rlp.Text(make([]byte, 256)),
		rlp.Number(131072), rlp.Number(0), rlp.Number(4712388), rlp.Number(0), rlp.Number(0), rlp.Text(nil),
		rlp.Text(make([]byte, 32)), rlp.Text(make([]byte, 8)),
	))
	must(t, e)
	wantText(t, "the block's hash", hexOf(digest.Keccak(form)), "89c99d90b79719238d2645c7642f2c9295246e80775b38cfd162b696817fbd50")
}

func TestHashesAreAsKnownElsewhere(t *testing.T) { // P13.6, P13.11
	root, nodes, e := state.Root(nil, trie.Empty(), nil)
	must(t, e)
	wantText(t, "the root of nothing", hexOf(root), "56e81f171bcc55a6ff8345e692c0f86e5b48e01b996cadc001622fb5e363b421")
	wantText(t, "the nodes of nothing", nodesText(nodes), "")
	s := state.New(nil)
	s.Create(address(1))
	wantText(t, "the hash of no code", hexOf(s.CodeHash(address(1))), "c5d2460186f7233c927e7db2dcc703c0e500b653ca82273b7bfad8045d85a470")
	s.SetCode(address(1), []byte("abc"))
	wantText(t, "a code's hash", hexOf(s.CodeHash(address(1))), "4e03657aea45a94fc7d47ba826c8d667c0d1e6e33a64a036ec44f58fa12d6c45")
}
