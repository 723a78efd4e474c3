package digest_test

import (
	"testing"

	"cairn/digest"
)

func keccak(b []byte) []byte {
	h := digest.Keccak(b)
	return h[:]
}

// P3.1: where pieces are about to end, end, and begin; of 135 bytes one is left for the padding.
func TestKeccakKnown(t *testing.T) {
	wantKnown(t, "Keccak", keccak, []known{
		{0, "c5d2460186f7233c927e7db2dcc703c0e500b653ca82273b7bfad8045d85a470"},
		{1, "69c322e3248a5dfc29d73c5b0553b0185a35cd5bb6386747517ef7e53b15e287"},
		{134, "c2af982095a7850d9d5ca6bab5c091918529f0360cfd4c7709ec5ff6eb16f289"},
		{135, "c9d04b08bf79ea4787819cbd7e2d6a3f4059f91e0ca2272ec3d0a0e9d8981b7b"},
		{136, "064ea1bc97584977689ef5034bb2c17155265f59d4b0a4ecfa9c67a9ddc4f819"},
		{137, "0d6674f1aeaa1d599bcf6993997d2419259d4471fe26b979f44db2dde0bc9354"},
		{272, "32d1641a532f827d7c15cab7c0cad6301a34f9cff102267417b10f0de090edff"},
	})
	wantAll(t, "Keccak", keccak, "fe312c50f0c47d76fda34f6f81023fbd13276eff9730d5d94d324e1b2edc5ccc")
}

// P3.1
func TestKeccakByTheWords(t *testing.T) {
	for n := range 700 {
		if digest.Keccak(text(n)) != modelSponge(text(n), 1, modelPermute) {
			t.Fatalf("%d bytes", n)
		}
	}
}

// P3.1: what a node hashes by the thousand.
func TestKeccakOfEthereum(t *testing.T) {
	wantHex(t, "an empty trie", keccak([]byte{0x80}), "56e81f171bcc55a6ff8345e692c0f86e5b48e01b996cadc001622fb5e363b421")
	wantHex(t, "no uncles", keccak([]byte{0xc0}), "1dcc4de8dec75d7aab85b567b6ccd41ad312451b948a7413f0a142fd40d49347")
	wantHex(t, "a signature's words", keccak([]byte("Transfer(address,address,uint256)")), "ddf252ad1be2c89b69c2b068fc378daa952ba7f163c4a11628f55a4df523b3ef")
}
