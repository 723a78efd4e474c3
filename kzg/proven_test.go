package kzg_test

import (
	"math/big"
	"testing"

	"cairn/api"
	"cairn/curve"
	"cairn/kzg"
)

// P9.3: the bad points are of all kinds that there are.
func TestKindsOfErrors(t *testing.T) {
	for i, e := range []api.Errno{api.ErrCoord, api.ErrCurve, api.ErrGroup} {
		if l := kinds(); len(l) != 3 || l[i].e != e {
			t.Error(l)
		}
	}
	for i, e := range []api.Errno{api.ErrFlags, api.ErrCoord, api.ErrCurve, api.ErrGroup} {
		if l := shortKinds(); len(l) != 4 || l[i].e != e {
			t.Error(l)
		}
	}
	for _, x := range bads() {
		if e := curve.Bls().Group1(x.p); e != x.e {
			t.Errorf("%s: %d, not %d", x.name, e, x.e)
		}
	}
	for _, x := range badShorts() {
		if _, e := curve.ReadBls1(x.b); e != x.e {
			t.Errorf("%s, %x: %d, not %d", x.name, x.b, e, x.e)
		}
	}
}

// P9.3: a bad point in either place, beside points of all kinds, ahead of whatever is wrong with z and y.
func TestProvenRefuses(t *testing.T) {
	t.Parallel()
	for _, x := range bads() {
		for _, n := range edges() {
			for _, p := range []point{infinity(), base(), kzg.Power()} {
				wantProvenError(t, x.name, x.e, x.p, p, n, whole(0))
				wantProvenError(t, x.name, x.e, p, x.p, n, whole(0))
				wantProvenError(t, x.name, x.e, x.p, p, whole(0), n)
				wantProvenError(t, x.name, x.e, p, x.p, whole(0), n)
			}
		}
	}
}

// P9.3: the error of c ahead of the proof's.
func TestProvenFirstError(t *testing.T) {
	for _, x := range kinds() {
		for _, y := range kinds() {
			wantProvenError(t, x.name+" ahead of "+y.name, x.e, x.p, y.p, whole(0), whole(0))
			wantProvenError(t, x.name+" ahead of "+y.name, x.e, x.p, y.p, order(), order())
		}
	}
}

// P9.3: z and y at the edges, of the polynomials 0, 1 and X.
func TestProvenScalars(t *testing.T) {
	t.Parallel()
	for _, x := range []struct{ a, b int64 }{{0, 0}, {1, 0}, {0, 1}} {
		a, b := whole(x.a), whole(x.b)
		c, proof := line(a, b), first(b)
		for _, z := range edges() {
			for _, y := range append(edges(), power(255, 0), plus(new(big.Int).Lsh(order(), 1), 1)) {
				if isScalar(z) && isScalar(y) {
					wantProven(t, "a line", y.Cmp(onLine(a, b, z)) == 0, c, proof, z, y)
					continue
				}
				wantProvenError(t, "a line", api.ErrScalar, c, proof, z, y)
				wantCheck(t, "a line", api.ErrScalar, claimOf(c, proof, z, y))
			}
		}
	}
}

// P9.3: each limb of z and y counts when they are held against r.
func TestProvenAroundR(t *testing.T) {
	for limb := range 4 {
		step := new(big.Int).Lsh(whole(1), uint(64*limb))
		below, above := new(big.Int).Sub(order(), step), new(big.Int).Add(order(), step)
		wantProven(t, "below r", true, infinity(), infinity(), below, whole(0))
		wantProven(t, "below r", true, first(below), infinity(), whole(0), below)
		wantProvenError(t, "above r", api.ErrScalar, infinity(), infinity(), above, whole(0))
		wantProvenError(t, "above r", api.ErrScalar, infinity(), infinity(), whole(0), above)
	}
}

// P9.3: commitments and proofs at infinity.
func TestProvenAtInfinity(t *testing.T) {
	t.Parallel()
	f := source{at: 2}
	for _, z := range append(edgesBelow(), f.scalar()) {
		wantProven(t, "0", true, infinity(), infinity(), z, whole(0))
		for _, y := range []*big.Int{whole(1), plus(order(), -1), f.scalar()} {
			wantProven(t, "0 is not y", false, infinity(), infinity(), z, y)
			wantProven(t, "y", true, first(y), infinity(), z, y)
			wantProven(t, "y is not y + 1", false, first(y), infinity(), z, sum(y, whole(1)))
			wantProven(t, "y is not -y", false, first(y), infinity(), z, mod(new(big.Int).Neg(y)))
			wantProven(t, "y is not 0", false, first(y), infinity(), z, whole(0))
		}
		for _, p := range []point{base(), neg(base()), kzg.Power(), member(10)} {
			wantProven(t, "a proof of 0 that is not at infinity", false, infinity(), p, z, whole(0))
			wantProven(t, "a proof of 1 that is not at infinity", false, base(), p, z, whole(1))
		}
		wantProven(t, "X without a proof", false, kzg.Power(), infinity(), z, z)
	}
}

// P9.3: points of the group of which nobody knows anything prove nothing of each other.
func TestProvenOfMembers(t *testing.T) {
	t.Parallel()
	p, q := member(10), member(100)
	for _, n := range edgesBelow() {
		wantProven(t, "two members", false, p, q, n, n)
		wantProven(t, "one and its negative", false, p, neg(p), n, n)
		wantProven(t, "one twice", false, p, p, n, n)
		wantProven(t, "one, proved by infinity", false, p, infinity(), n, n)
	}
}

// P9.3: the proof and what is proved can't be put in each other's place, nor turned to their negatives.
func TestProvenSides(t *testing.T) {
	t.Parallel()
	f := source{at: 3}
	for range 3 {
		a, b, z := f.scalar(), f.scalar(), f.scalar()
		c, proof, y := line(a, b), first(b), onLine(a, b, z)
		wantProven(t, "a line", true, c, proof, z, y)
		wantProven(t, "turned round", false, proof, c, z, y)
		wantProven(t, "z and y turned round", false, c, proof, y, z)
		wantProven(t, "-c", false, neg(c), proof, z, y)
		wantProven(t, "-proof", false, c, neg(proof), z, y)
		minus := mod(new(big.Int).Neg(y))
		wantProven(t, "-y", false, c, proof, z, minus)
		wantProven(t, "-z", false, c, proof, mod(new(big.Int).Neg(z)), y)
		wantProven(t, "all negative", true, neg(c), neg(proof), z, minus)
	}
}
