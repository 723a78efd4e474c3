package curve_test

import (
	"math/big"

	"cairn/api"
)

// The tests hold package curve against a model: the chapter's words, reckoned by math/big with whole numbers of any size. It reckons in
// Fp2 throughout: a number of Fp is one whose second part is 0.

// pair is x0 + x1 u.
type pair [2]*big.Int

// spot is a point of any of the four groups, as the tests hold it: bn254's numbers are made as wide as BLS12-381's, and of a point of
// E1 the second parts are 0.
type spot = api.P2[[6]uint64]

// law is one of the four curves.
type law struct {
	p, r     *big.Int
	b        pair
	cofactor *big.Int // how many times r the curve's points are
}

func none() spot { return spot{Inf: true} }

func pairOf(a, b int64) pair { return pair{big.NewInt(a), big.NewInt(b)} }

// in is a coordinate's pair.
func in(a [2][6]uint64) pair { return pair{number(a[0]), number(a[1])} }

// out is a pair's coordinate.
func out(a pair) [2][6]uint64 { return [2][6]uint64{of[[6]uint64](a[0]), of[[6]uint64](a[1])} }

func (m law) mod(a pair) pair {
	return pair{new(big.Int).Mod(a[0], m.p), new(big.Int).Mod(a[1], m.p)}
}

func (m law) add(a, b pair) pair {
	return m.mod(pair{new(big.Int).Add(a[0], b[0]), new(big.Int).Add(a[1], b[1])})
}

func (m law) neg(a pair) pair {
	return m.mod(pair{new(big.Int).Neg(a[0]), new(big.Int).Neg(a[1])})
}

func (m law) sub(a, b pair) pair { return m.add(a, m.neg(b)) }

func (m law) mul(a, b pair) pair {
	product := func(i, j int) *big.Int { return new(big.Int).Mul(a[i], b[j]) }
	return m.mod(pair{product(0, 0).Sub(product(0, 0), product(1, 1)), product(0, 1).Add(product(0, 1), product(1, 0))})
}

// inv is 1 / a, for a that is not 0.
func (m law) inv(a pair) pair {
	n := new(big.Int).Add(new(big.Int).Mul(a[0], a[0]), new(big.Int).Mul(a[1], a[1]))
	n.ModInverse(n, m.p)
	return m.mul(pair{a[0], new(big.Int).Neg(a[1])}, pair{n, new(big.Int)})
}

func (m law) same(a, b pair) bool {
	d := m.sub(a, b)
	return d[0].Sign() == 0 && d[1].Sign() == 0
}

// cubed is x^3 + b, which a point's y^2 is.
func (m law) cubed(x pair) pair { return m.add(m.mul(x, m.mul(x, x)), m.b) }

// root is a root of a, if there is one: one of E1's kind, in Fp, if narrow.
func (m law) root(a pair, narrow bool) (pair, bool) {
	a = m.mod(a)
	zero := new(big.Int)
	if a[1].Sign() == 0 {
		if y := new(big.Int).ModSqrt(a[0], m.p); y != nil {
			return pair{y, zero}, true
		}
		y := new(big.Int).Neg(a[0])
		return pair{zero, y.ModSqrt(y.Mod(y, m.p), m.p)}, !narrow
	}
	// With (y0 + y1 u)^2 = a: y0^2 + y1^2 is a root of a0^2 + a1^2, and y0^2 half of its sum with a0.
	n := new(big.Int).Add(new(big.Int).Mul(a[0], a[0]), new(big.Int).Mul(a[1], a[1]))
	if n.ModSqrt(n.Mod(n, m.p), m.p) == nil {
		return pair{}, false
	}
	half := new(big.Int).ModInverse(big.NewInt(2), m.p)
	for _, n := range []*big.Int{n, new(big.Int).Neg(n)} {
		y := new(big.Int).Add(a[0], n)
		y.Mul(y, half)
		if y.ModSqrt(y.Mod(y, m.p), m.p) != nil {
			other := new(big.Int).ModInverse(new(big.Int).Lsh(y, 1), m.p)
			return pair{y, other.Mul(other, a[1]).Mod(other, m.p)}, true
		}
	}
	return pair{}, false
}

// modelGood is P7.3.
func (m law) modelGood(p spot) api.Errno {
	x, y := in(p.X), in(p.Y)
	for _, a := range []*big.Int{x[0], x[1], y[0], y[1]} {
		if a.Cmp(m.p) >= 0 || p.Inf && a.Sign() != 0 {
			return api.ErrCoord
		}
	}
	if !p.Inf && !m.same(m.mul(y, y), m.cubed(x)) {
		return api.ErrCurve
	}
	return api.OK
}

func (m law) modelNeg(p spot) spot {
	p.Y = out(m.neg(in(p.Y)))
	return p
}

// modelAdd adds two good points as the chapter's words do.
func (m law) modelAdd(p, q spot) spot {
	switch {
	case p.Inf:
		return q
	case q.Inf:
		return p
	case q == m.modelNeg(p):
		return none()
	}
	x1, y1, x2, y2 := in(p.X), in(p.Y), in(q.X), in(q.Y)
	up, across := m.sub(y2, y1), m.sub(x2, x1)
	if p == q {
		up, across = m.mul(pairOf(3, 0), m.mul(x1, x1)), m.add(y1, y1)
	}
	s := m.mul(up, m.inv(across))
	x := m.sub(m.sub(m.mul(s, s), x1), x2)
	return spot{X: out(x), Y: out(m.sub(m.mul(s, m.sub(x1, x)), y1))}
}

// modelMul is k times p, from the least bit on.
func (m law) modelMul(p spot, k *big.Int) spot {
	sum := none()
	for i := range k.BitLen() {
		if k.Bit(i) == 1 {
			sum = m.modelAdd(sum, p)
		}
		p = m.modelAdd(p, p)
	}
	return sum
}

// modelGroup is P7.5.
func (m law) modelGroup(p spot) api.Errno {
	if e := m.modelGood(p); e != api.OK {
		return e
	}
	if !m.modelMul(p, m.r).Inf {
		return api.ErrGroup
	}
	return api.OK
}

// ofOrder is a point whose order is the prime q, which divides the cofactor; it is made of the point p.
func (m law) ofOrder(p spot, q *big.Int) (spot, bool) {
	rest := new(big.Int).Set(m.cofactor)
	for new(big.Int).Mod(rest, q).Sign() == 0 {
		rest.Div(rest, q)
	}
	p = m.modelMul(m.modelMul(p, m.r), rest)
	for next := m.modelMul(p, q); !next.Inf; next = m.modelMul(p, q) {
		p = next
	}
	return p, !p.Inf
}
