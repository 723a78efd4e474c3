package secp_test

import (
	"math/big"
	"testing"

	"cairn/api"
	"cairn/field"
	"cairn/secp"
)

// add, neg and mul are those calls of what are points.
func add(t *testing.T, p, q api.Point) api.Point {
	t.Helper()
	s, e := secp.Add(p, q)
	return answered(t, s, e)
}

func neg(t *testing.T, p api.Point) api.Point {
	t.Helper()
	q, e := secp.Neg(p)
	return answered(t, q, e)
}

func mul(t *testing.T, p api.Point, k api.Word) api.Point {
	t.Helper()
	q, e := secp.Mul(p, k)
	return answered(t, q, e)
}

// answered is p, which came without an error and is a point.
func answered(t *testing.T, p api.Point, e api.Errno) api.Point {
	t.Helper()
	if e != api.OK || !secp.Good(p) {
		t.Fatal(p, e)
	}
	return p
}

func wantSame(t *testing.T, name string, p, q api.Point) {
	t.Helper()
	if p != q {
		t.Fatalf("%s: %v, %v", name, p, q)
	}
}

// P6.7: sums.
func TestGroup(t *testing.T) {
	l := points(2)
	for _, p := range l {
		wantSame(t, "p and its negative", add(t, p, neg(t, p)), none())
		wantSame(t, "the negative's negative", neg(t, neg(t, p)), p)
		wantSame(t, "n times p", mul(t, p, field.SecpN()), none())
		for _, q := range l {
			sum := add(t, p, q)
			wantSame(t, "the other way round", sum, add(t, q, p))
			wantSame(t, "q taken off again", add(t, sum, neg(t, q)), p)
			for _, r := range l[:8] {
				wantSame(t, "grouped", add(t, sum, r), add(t, p, add(t, q, r)))
			}
		}
	}
}

// P6.7: multiples of sums, up to sums of 2^256 - 1, which are above n.
func TestMultiplesOfSums(t *testing.T) {
	s := source{at: 51}
	limit := new(big.Int).Lsh(big.NewInt(1), 256)
	k := factors(10)
	tried := 0
	for range 100 {
		p, i, j := s.point(), k[s.next()%uint64(len(k))], k[s.next()%uint64(len(k))]
		sum := new(big.Int).Add(number(i), number(j))
		if sum.Cmp(limit) < 0 {
			wantSame(t, "a sum's multiple", mul(t, p, of(sum)), add(t, mul(t, p, i), mul(t, p, j)))
			tried++
		}
		rest := of(new(big.Int).Sub(number(top()), number(i)))
		wantSame(t, "2^256 - 1 times", mul(t, p, top()), add(t, mul(t, p, i), mul(t, p, rest)))
	}
	if tried < 10 {
		t.Error(tried)
	}
}

// P6.8
func TestWhoseItIs(t *testing.T) {
	s := source{at: 53}
	for range 30 {
		key, nonce, h := s.scalar(), s.scalar(), hashOf(s.word())
		p, e := secp.Public(key)
		answered(t, p, e)
		g, e := secp.Sign(key, h, nonce)
		if e != api.OK || !secp.Low(g.S) || !secp.Verify(p, h, g.R, g.S) {
			t.Fatalf("key %x, hash %x, nonce %x: %x, %d", key, h, nonce, g, e)
		}
		q, e := secp.Recover(h, g)
		wantPoint(t, "Recover", q, e, p, h, g)
		other := h
		other[s.next()%32] ^= 1 << (s.next() % 8)
		if q, _ := secp.Recover(other, g); q == p || secp.Verify(p, other, g.R, g.S) {
			t.Fatalf("key %x, nonce %x, hashes %x and %x: one and the same signer", key, nonce, h, other)
		}
	}
}

// P6.9: of any R and S, signed by nobody.
func TestRecoveredVerifies(t *testing.T) {
	s := source{at: 55}
	recovered := 0
	for range 30 {
		h, g := hashOf(s.word()), api.Signature{R: s.word(), S: s.word(), Odd: int(s.next() >> 63)}
		p, e := secp.Recover(h, g)
		if e != api.OK {
			continue
		}
		recovered++
		if !secp.Good(p) || p.Inf || !secp.Verify(p, h, g.R, g.S) {
			t.Fatalf("hash %x, %x: %v doesn't verify", h, g, p)
		}
		other, e := secp.Recover(h, api.Signature{R: g.R, S: g.S, Odd: 1 - g.Odd})
		if other == p {
			t.Fatalf("hash %x, %x: both Odds recover %v, %d", h, g, p, e)
		}
		if e == api.OK && !secp.Verify(other, h, g.R, g.S) {
			t.Fatalf("hash %x, %x: %v doesn't verify", h, g, other)
		}
	}
	if recovered < 5 {
		t.Error(recovered)
	}
}

// P6.10
func TestLifted(t *testing.T) {
	for _, p := range points(30) {
		if p.Inf {
			continue
		}
		odd := int(p.Y[0] % 2)
		q, e := secp.Lift(p.X, odd)
		wantPoint(t, "Lift", q, e, p, p.X, odd)
		q, e = secp.Lift(p.X, 1-odd)
		wantPoint(t, "Lift", q, e, neg(t, p), p.X, 1-odd)
	}
}
