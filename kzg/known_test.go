package kzg_test

import (
	"math/big"
	"slices"
	"testing"

	"cairn/api"
	"cairn/curve"
	"cairn/kzg"
	"cairn/pairing"
)

// read is the point of 48 bytes that digits tell.
func read(digits string) point { return good(curve.ReadBls1(octets(digits))) }

// knownProof is a commitment and a proof that other programs know (EIP-4844's 10th contract), of a polynomial with many terms.
func knownProof() proved {
	return proved{
		c:     read("8f59a8d2a1a625a17f3fea0fe5eb8c896db3764f3185481bc22f91b4aaffcca25f26936857bc3a7c2539ea8ec3a952b7"),
		proof: read("873033e038326e87ed3e1276fd140253fa08e9fc25fb2d9a98527fc22a2c9612fbeafdad446cbc7bcdbdcd780af2c16a"),
		z:     hex("564c0a11a0f704f4fc3e8acfe0f8245f0ad1347b378fbf96e206da11a5d36306"),
		y:     hex("24d25032e67a7e6a4910df5834b8fe70e6bcfeeac0352434196bdf4b2485d5a1"),
	}
}

// P9.3, P9.4: the known proof.
func TestKnownProof(t *testing.T) {
	k := knownProof()
	wantProved(t, "known", k)
	wantCheck(t, "known", api.OK, octets("01e798154708fe7789429634053cbf9f99b619f9f084048927333fce637f549b"+
		"564c0a11a0f704f4fc3e8acfe0f8245f0ad1347b378fbf96e206da11a5d36306"+
		"24d25032e67a7e6a4910df5834b8fe70e6bcfeeac0352434196bdf4b2485d5a1"+
		"8f59a8d2a1a625a17f3fea0fe5eb8c896db3764f3185481bc22f91b4aaffcca25f26936857bc3a7c2539ea8ec3a952b7"+
		"873033e038326e87ed3e1276fd140253fa08e9fc25fb2d9a98527fc22a2c9612fbeafdad446cbc7bcdbdcd780af2c16a"))
}

// P9.4: the polynomial that is 2 everywhere, as other programs write it.
func TestKnownTwos(t *testing.T) {
	twos := octets("a572cbea904d67468808c8eb50a9450c9721db309128012543902d0ac358a62ae28f75bb8f1c7c42c39a8c5529bf0f4e")
	for _, z := range edgesBelow() {
		wantCheck(t, "2", api.OK, input(z, whole(2), twos, short(infinity())))
		wantCheck(t, "3", api.ErrProof, input(z, whole(3), twos, short(infinity())))
	}
}

// powers are tau^i Base1, which other programs know.
func powers() []point {
	return []point{
		base(),
		kzg.Power(),
		read("8029c8ce0d2dce761a7f29c2df2290850c85bdfaec2955626d7acc8864aeb01fe16c9e156863dc63b6c22553910e27c1"),
		read("b1386c995d3101d10639e49b9e5d39b9a280dcf0f135c2e6c6928bb3ab8309a9da7178f33925768c324f11c3762cfdd5"),
		read("9596d929610e6d2ed3502b1bb0f1ea010f6b6605c95d4859f5e53e09fa68dc71dfd5874905447b5ec6cd156a76d6b6e8"),
		read("851e3c3d4b5b7cdbba25d72abf9812cf3d7c5a9dbdec42b6635e2add706cbeea18f985afe5247459f6c908620322f434"),
	}
}

// P9.1, P9.5: each power is the one ahead of it, times the tau of Setup.
func TestKnownPowers(t *testing.T) {
	l := powers()
	for i, p := range l[1:] {
		is, e := pairing.Bls([]point{p, neg(l[i])}, []api.P2[limbs]{curve.Bls().Base2(), kzg.Setup()})
		if !is || e != api.OK {
			t.Errorf("tau^%d: %v, %d", i+1, is, e)
		}
	}
}

// polynomial is one by its coefficients, that of X^0 ahead.
type polynomial []*big.Int

// at is its value at z.
func (f polynomial) at(z *big.Int) *big.Int {
	y := whole(0)
	for i := len(f) - 1; i >= 0; i-- {
		y = sum(product(y, z), f[i])
	}
	return y
}

// divided is what comes of (f - f(z)) / (X - z).
func (f polynomial) divided(z *big.Int) polynomial {
	if len(f) == 0 {
		return nil
	}
	q := make(polynomial, len(f)-1)
	carry := whole(0)
	for i := len(q) - 1; i >= 0; i-- {
		carry = sum(f[i+1], product(carry, z))
		q[i] = carry
	}
	return q
}

// isProved tells whether f - y is q (X - z).
func (f polynomial) isProved(q polynomial, z, y *big.Int) bool {
	rest := make(polynomial, max(len(f), len(q)+1))
	for i := range rest {
		rest[i] = whole(0)
	}
	for i, n := range f {
		rest[i] = sum(rest[i], n)
	}
	rest[0] = sum(rest[0], new(big.Int).Neg(y))
	for i, n := range q {
		rest[i+1] = sum(rest[i+1], new(big.Int).Neg(n))
		rest[i] = sum(rest[i], product(n, z))
	}
	return !slices.ContainsFunc(rest, func(n *big.Int) bool { return n.Sign() != 0 })
}

// committed is f(tau) Base1.
func (f polynomial) committed() point {
	c := infinity()
	for i, p := range powers()[:len(f)] {
		c = add(c, times(p, f[i]))
	}
	return c
}

// polynomials of all lengths: by chance, with coefficients that are 0 and with those that are r - 1.
func polynomials(s *source) (l []polynomial) {
	for n := range len(powers()) + 1 {
		f := make(polynomial, n)
		for i := range f {
			switch f[i] = s.scalar(); s.next() % 4 {
			case 0:
				f[i] = whole(0)
			case 1:
				f[i] = plus(order(), -1)
			}
		}
		l = append(l, f)
	}
	return l
}

// wantPolynomial holds Proven of what is committed to against what the polynomials tell.
func wantPolynomial(t *testing.T, f, q polynomial, z, y *big.Int) {
	t.Helper()
	wantProven(t, "a polynomial", f.isProved(q, z, y), f.committed(), q.committed(), z, y)
}

// P9.3: polynomials with more terms than a line has, and whatever is not the quotient.
func TestPolynomials(t *testing.T) {
	t.Parallel()
	s := source{at: 6}
	for range 2 {
		for _, f := range polynomials(&s) {
			for _, z := range []*big.Int{whole(0), plus(order(), -1), s.scalar()} {
				q, y := f.divided(z), f.at(z)
				if !f.isProved(q, z, y) {
					t.Fatal(f, z)
				}
				wantPolynomial(t, f, q, z, y)
				wantPolynomial(t, f, q, z, sum(y, whole(1)))
				wantPolynomial(t, f, q, sum(z, whole(1)), y)
				if len(q) == 0 {
					q = polynomial{whole(0)}
				}
				i := s.next() % uint64(len(q))
				q[i] = sum(q[i], whole(1))
				wantPolynomial(t, f, q, z, y)
			}
		}
	}
}

// P9.7: polynomials of unlike lengths, put together at one place.
func TestSumsOfPolynomials(t *testing.T) {
	t.Parallel()
	s := source{at: 7}
	z := s.scalar()
	all := proved{infinity(), infinity(), z, whole(0)}
	for _, f := range polynomials(&s) {
		all = sumOf(all, proved{f.committed(), f.divided(z).committed(), z, f.at(z)})
		wantProved(t, "the sum so far", all)
	}
}
