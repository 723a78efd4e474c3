package pairing

import (
	"math/big"
	"testing"

	"cairn/api"
	"cairn/field"
)

// This test, and those of the tower, look at what the calls stand on, which can't be asked for from outside.

// whole is a number of any size, its least limb first.
func whole(a ...uint64) *big.Int {
	n := new(big.Int)
	for i := len(a) - 1; i >= 0; i-- {
		n.Lsh(n, 64)
		n.Or(n, new(big.Int).SetUint64(a[i]))
	}
	return n
}

// power2 is x to the power e of Fp2.
func power2[L api.Limbs](t *tower[L], x fp2[L], e *big.Int) fp2[L] {
	y := fp2[L]{t.one}
	for i := e.BitLen() - 1; i >= 0; i-- {
		y = t.mul2(y, y)
		if e.Bit(i) == 1 {
			y = t.mul2(y, x)
		}
	}
	return y
}

// The numbers that stand worked out in the code are what the chapter's words come to.
func TestTerms(t *testing.T) {
	bnR, blsR := field.BnR(), field.BlsR()
	bn, bls := bnTerms(), blsTerms()
	heldTerms(t, bn, whole(bn.prime[:]...), whole(bnR[:]...))
	heldTerms(t, bls, whole(bls.prime[:]...), whole(blsR[:]...))
	six := new(big.Int).Mul(big.NewInt(6), whole(bnT))
	if whole(bn.loop[:]...).Cmp(six.Add(six, big.NewInt(2))) != 0 || whole(bls.loop[:]...).Cmp(whole(0xd201000000010000)) != 0 {
		t.Error(bn.loop, bls.loop)
	}
}

func heldTerms[L api.Limbs](t *testing.T, n terms[L], p, r *big.Int) {
	tw := newTower(n)
	sixth, rest := new(big.Int).DivMod(new(big.Int).Sub(p, big.NewInt(1)), big.NewInt(6), new(big.Int))
	if turn := power2(tw, fp2[L]{tw.shift, tw.one}, sixth); turn != tw.turn || rest.Sign() != 0 {
		t.Errorf("turn: %x, not %x", tw.turn, turn)
	}
	// The strides come to a multiple of (p^4 - p^2 + 1) / r, by a number that r doesn't divide.
	sum, step := new(big.Int), big.NewInt(1)
	for _, s := range n.last {
		step.Mul(step, whole(s.step[:]...))
		for i, count := range s.counts {
			part := new(big.Int).Exp(p, big.NewInt(int64(i)), nil)
			sum.Add(sum, part.Mul(part, step).Mul(part, big.NewInt(int64(count))))
		}
	}
	square := new(big.Int).Mul(p, p)
	hard := new(big.Int).Mul(square, square)
	hard.Sub(hard, square).Add(hard, big.NewInt(1))
	if hard.DivMod(hard, r, rest); rest.Sign() != 0 {
		t.Fatal("r doesn't divide it")
	}
	if sum.DivMod(sum, hard, rest); rest.Sign() != 0 || sum.Sign() <= 0 || new(big.Int).Mod(sum, r).Sign() == 0 {
		t.Errorf("strides: %x, and %x left", sum, rest)
	}
}
