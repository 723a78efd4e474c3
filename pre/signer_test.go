package pre_test

import (
	"math/big"
	"testing"

	"cairn/api"
	"cairn/pre"
	"cairn/secp"
)

// order is secp256k1's n.
func order() *big.Int {
	return number("fffffffffffffffffffffffffffffffebaaedce6af48a03bbfd25e8cd0364141")
}

// knownSigned is an input of the contract 1 whose signer is known elsewhere, and that signer.
func knownSigned() (input, signer []byte) {
	return octets("18c547e4f7b0f325ad1e56f57e26c745b09a3e503d86e00e5255ff7f715d3d1c000000000000000000000000000000000000000000000000000000000000001c" +
			"73b1693892219d736caba55bdb67216e485557ea6b6af75f37096c9aa6a5a75feeb940b1d03b21e36b0e47e79769f095fe2ab855bd91e3a38756b7d75a9c4549"),
		octets("000000000000000000000000a94f5374fce5edbc8e2a8697c15331677e6ebf0b")
}

// signed is an input of the contract 1 that a key signed, and the answer.
func signed(s *source) (hash []byte, v int64, r, ss *big.Int, signer []byte) {
	key := asWord(plus(new(big.Int).Mod(of(s.octets(32)), plus(order(), -1)), 1))
	nonce := asWord(plus(new(big.Int).Mod(of(s.octets(32)), plus(order(), -1)), 1))
	hash = s.octets(32)
	g := good(secp.Sign(key, api.Hash(hash), nonce))
	a := good(secp.Address(good(secp.Public(key))))
	return hash, int64(27 + g.Odd), wordNumber(g.R), wordNumber(g.S), join(noughts(12), a[:])
}

// wordNumber is a word's number.
func wordNumber(w api.Word) *big.Int {
	n := new(big.Int)
	for i := len(w) - 1; i >= 0; i-- {
		n.Or(n.Lsh(n, 64), new(big.Int).SetUint64(w[i]))
	}
	return n
}

// P16.3: a signer known elsewhere.
func TestKnownSigner(t *testing.T) {
	input, signer := knownSigned()
	wantRun(t, "known", 1, input, signer, api.OK)
	input[0] ^= 1
	if out, e := pre.Run(1, input); e != api.OK || len(out) != 32 || of(out).Cmp(of(signer)) == 0 {
		t.Errorf("%x, %d", out, e)
	}
}

// P16.3: what keys sign, also with the other s that is as good, which no transaction may have.
func TestSigner(t *testing.T) {
	s := source{at: 6}
	for range 100 {
		hash, v, r, ss, signer := signed(&s)
		wantRun(t, "signed", 1, join(hash, word32s(whole(v), r, ss)), signer, api.OK)
		other := new(big.Int).Sub(order(), ss)
		wantRun(t, "signed, with the high s", 1, join(hash, word32s(whole(55-v), r, other)), signer, api.OK)
		wantModel(t, "the other v", 1, join(hash, word32s(whole(55-v), r, ss)))
	}
}

// P16.3: numbers v that say nothing, some of them 27 or 28 in their lowest or highest bytes alone.
func TestSignerV(t *testing.T) {
	s := source{at: 7}
	hash, right, r, ss, signer := signed(&s)
	for v := range int64(600) {
		if v == 27 || v == 28 {
			continue
		}
		wantRun(t, "another v", 1, join(hash, word32s(whole(v), r, ss)), nil, api.OK)
	}
	wantRun(t, "v", 1, join(hash, word32s(whole(right), r, ss)), signer, api.OK)
	for _, v := range []int64{27, 28} {
		for _, bit := range []uint{8, 63, 64, 65, 127, 128, 192, 255} {
			wantRun(t, "a great v", 1, join(hash, word32s(power(bit, v), r, ss)), nil, api.OK)
		}
		for limb := uint(64); limb < 256; limb += 64 {
			wantRun(t, "v in a higher limb", 1, join(hash, word32s(new(big.Int).Lsh(whole(v), limb), r, ss)), nil, api.OK)
		}
	}
	wantRun(t, "the greatest v", 1, join(hash, word32s(power(256, -1), r, ss)), nil, api.OK)
}

// P16.3: r and s of 0, of the group's order and about it.
func TestSignerNumbers(t *testing.T) {
	s := source{at: 8}
	hash, v, r, ss, _ := signed(&s)
	for _, n := range []*big.Int{whole(0), order(), plus(order(), 1), power(256, -1)} {
		for _, v := range []int64{27, 28} {
			wantRun(t, "r that may not be", 1, join(hash, word32s(whole(v), n, ss)), nil, api.OK)
			wantRun(t, "s that may not be", 1, join(hash, word32s(whole(v), r, n)), nil, api.OK)
			wantRun(t, "both", 1, join(hash, word32s(whole(v), n, n)), nil, api.OK)
		}
	}
	// No point has X = 5.
	wantRun(t, "no point", 1, join(hash, word32s(whole(v), whole(5), ss)), nil, api.OK)
	for _, n := range []*big.Int{whole(1), whole(2), plus(order(), -1), plus(order(), -2)} {
		wantModel(t, "r at the edge", 1, join(hash, word32s(whole(v), n, ss)))
		if out, e := pre.Run(1, join(hash, word32s(whole(v), r, n))); len(out) != 32 || e != api.OK {
			t.Errorf("s at the edge: %x, %d", out, e)
		}
		wantModel(t, "s at the edge", 1, join(hash, word32s(whole(v), r, n)))
	}
	// With a hash of r, and s of r, too, Q - G is at infinity where Q is G.
	g := wordNumber(secp.Base().X)
	wantRun(t, "at infinity", 1, word32s(g, whole(27), g, g), nil, api.OK)
	wantModel(t, "not at infinity", 1, word32s(g, whole(28), g, g))
}

// P16.3, P16.7: input that is too short, and too long.
func TestSignerLength(t *testing.T) {
	s := source{at: 9}
	hash, v, r, ss, signer := signed(&s)
	input := join(hash, word32s(whole(v), r, ss))
	for n := range 128 {
		wantModel(t, "too short", 1, input[:n])
	}
	for n := range 64 {
		wantRun(t, "no v", 1, input[:n], nil, api.OK)
	}
	for n := 64; n <= 96; n++ {
		wantRun(t, "no s", 1, input[:n], nil, api.OK)
	}
	for _, more := range [][]byte{{0}, {1}, noughts(32), s.octets(32), s.octets(1000)} {
		wantRun(t, "too long", 1, join(input, more), signer, api.OK)
	}
	// An s whose last bytes are 0 is there without them, too.
	short := join(hash, word32s(whole(v), r, power(248, 0)))
	should, _ := modelRun(1, short)
	if len(should) != 32 {
		t.Errorf("%x", should)
	}
	for n := 97; n < 128; n++ {
		wantRun(t, "without noughts", 1, short[:n], should, api.OK)
	}
}
