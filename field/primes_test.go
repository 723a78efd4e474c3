package field_test

import (
	"math/big"
	"testing"

	"cairn/field"
)

// P5.6
func TestPrimes(t *testing.T) {
	for name, p := range map[string]struct {
		got    *big.Int
		digits string
		three  bool // it is 3 modulo 4
	}{
		"SecpP": {number(field.SecpP()), "fffffffffffffffffffffffffffffffffffffffffffffffffffffffefffffc2f", true},
		"SecpN": {number(field.SecpN()), "fffffffffffffffffffffffffffffffebaaedce6af48a03bbfd25e8cd0364141", false},
		"BnP":   {number(field.BnP()), "30644e72e131a029b85045b68181585d97816a916871ca8d3c208c16d87cfd47", true},
		"BnR":   {number(field.BnR()), "30644e72e131a029b85045b68181585d2833e84879b9709143e1f593f0000001", false},
		"BlsP":  {number(field.BlsP()), "1a0111ea397fe69a4b1ba7b6434bacd764774b84f38512bf6730d2a0f6b0f6241eabfffeb153ffffb9feffffffffaaab", true},
		"BlsR":  {number(field.BlsR()), "73eda753299d7d483339d80809a1d80553bda402fffe5bfeffffffff00000001", false},
	} {
		if p.got.Cmp(hex(p.digits)) != 0 {
			t.Errorf("%s: %x", name, p.got)
		}
		if !p.got.ProbablyPrime(20) || p.got.Bit(1) == 1 != p.three {
			t.Errorf("%s is no such prime: %x", name, p.got)
		}
	}
}

// P5.6: the numbers by the curves' own rules.
func TestPrimesByTheirRules(t *testing.T) {
	n := func(k int64) *big.Int { return big.NewInt(k) }
	// secp256k1: p is 2^256 - 2^32 - 977.
	p := new(big.Int).Lsh(n(1), 256)
	p.Sub(p, new(big.Int).Lsh(n(1), 32)).Sub(p, n(977))
	if number(field.SecpP()).Cmp(p) != 0 {
		t.Errorf("SecpP: %x", field.SecpP())
	}
	// sum is what a polynomial comes to, the highest number first.
	sum := func(x *big.Int, l ...int64) *big.Int {
		y := new(big.Int)
		for _, k := range l {
			y.Mul(y, x).Add(y, n(k))
		}
		return y
	}
	// bn254: p is 36 t^4 + 36 t^3 + 24 t^2 + 6 t + 1, r is p - 6 t^2.
	x := n(4965661367192848881)
	if number(field.BnP()).Cmp(sum(x, 36, 36, 24, 6, 1)) != 0 || number(field.BnR()).Cmp(sum(x, 36, 36, 18, 6, 1)) != 0 {
		t.Errorf("BnP, BnR: %x, %x", field.BnP(), field.BnR())
	}
	// BLS12-381: r is t^4 - t^2 + 1, p is (t - 1)^2 r / 3 + t.
	x = new(big.Int).Neg(hex("d201000000010000"))
	r := sum(x, 1, 0, -1, 0, 1)
	p = sum(x, 1, -2, 1)
	p.Mul(p, r).Div(p, n(3)).Add(p, x)
	if number(field.BlsP()).Cmp(p) != 0 || number(field.BlsR()).Cmp(r) != 0 {
		t.Errorf("BlsP, BlsR: %x, %x", field.BlsP(), field.BlsR())
	}
}
