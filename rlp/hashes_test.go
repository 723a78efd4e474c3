package rlp_test

import (
	"encoding/hex"
	"testing"

	"cairn/api"
	"cairn/digest"
	"cairn/rlp"
)

// wantHash holds the Keccak of a form against one that is known from Ethereum.
func wantHash(t *testing.T, name string, x api.Item, should string) {
	t.Helper()
	b, e := rlp.Encode(x)
	h := digest.Keccak(b)
	if got := hex.EncodeToString(h[:]); e != api.OK || got != should {
		t.Errorf("%s: %s, %d; not %s", name, got, e, should)
	}
}

const (
	emptyTrie = "56e81f171bcc55a6ff8345e692c0f86e5b48e01b996cadc001622fb5e363b421"
	noUncles  = "1dcc4de8dec75d7aab85b567b6ccd41ad312451b948a7413f0a142fd40d49347"
)

// P4.1: forms whose hashes everybody knows.
func TestHashesOfForms(t *testing.T) {
	wantHash(t, "the empty text", rlp.Text(nil), emptyTrie)
	wantHash(t, "the empty list", rlp.List(), noUncles)
}

// P4.1: the header of Ethereum's first block.
func TestHashOfTheFirstBlock(t *testing.T) {
	text := func(s string) api.Item { return rlp.Text(fromHex(t, s)) }
	noughts := func(n int) api.Item { return rlp.Text(make([]byte, n)) }
	header := rlp.List(
		noughts(32), text(noUncles), noughts(20),
		text("d7f8974fb5ac78d9ac099b9ad5018bedc2ce0a72dad1827a1709da30580f0544"), text(emptyTrie), text(emptyTrie), noughts(256),
		rlp.Number(0x400000000), rlp.Number(0), rlp.Number(5000), rlp.Number(0), rlp.Number(0),
		text("11bbe8db4e347b4e8c937c1c8370e4b5ed33adb3db69cbdb7a38e1e50b1b82fa"), noughts(32), text("0000000000000042"),
	)
	wantHash(t, "the first block", header, "d4e56740f876aef8c010b86a40d5f56745a118d0906a34e69aec8c0db1cb8fa3")
}

// P4.1, P4.5: the addresses of contracts that an account creates, by its nonce.
func TestHashesOfCreations(t *testing.T) {
	creator := rlp.Text(fromHex(t, "6ac7ea33f8831ea9dcc53393aaa88b25a785dbf0"))
	for nonce, should := range []string{
		"cd234a471b72ba2f1ccf0a70fcaba648a5eecd8d", "343c43a37d37dff08ae8c4a11544c718abb4fcf8",
		"f778b86fa74e846c4f0a1fbd1335fe81c00a0c91", "fffd933a0bc612844eaf0c6fe3e5b8e9b6c1d19c",
	} {
		b, _ := rlp.Encode(rlp.List(creator, rlp.Number(uint64(nonce))))
		h := digest.Keccak(b)
		if got := hex.EncodeToString(h[12:]); got != should {
			t.Errorf("nonce %d: %s, not %s", nonce, got, should)
		}
	}
}
