package curve_test

import (
	"math/big"
	"testing"

	"cairn/api"
	"cairn/curve"
	"cairn/field"
)

// number is a as a whole number.
func number[L api.Limbs](a L) *big.Int {
	n := new(big.Int)
	for i := len(a) - 1; i >= 0; i-- {
		n.Lsh(n, 64)
		n.Or(n, new(big.Int).SetUint64(a[i]))
	}
	return n
}

// of is a whole number modulo 2^width.
func of[L api.Limbs](n *big.Int) L {
	var a L
	for i := range len(a) {
		rest := new(big.Int).Rsh(n, uint(64*i))
		a[i] = rest.And(rest, new(big.Int).SetUint64(1<<64-1)).Uint64()
	}
	return a
}

// hex is the number of digits to the base 16.
func hex(digits string) *big.Int {
	n, ok := new(big.Int).SetString(digits, 16)
	if !ok {
		panic(digits)
	}
	return n
}

// word is a whole number modulo 2^256.
func word(n *big.Int) api.Word { return of[[4]uint64](n) }

// plus is n + d.
func plus(n *big.Int, d int64) *big.Int { return new(big.Int).Add(n, big.NewInt(d)) }

// power is 2^n + d.
func power(n uint, d int64) *big.Int { return plus(new(big.Int).Lsh(big.NewInt(1), n), d) }

// numeral is n, as wide as a spot's numbers.
func numeral(n *big.Int) [6]uint64 { return of[[6]uint64](n) }

// cut and widen turn a spot's number into one of the width L, and back.
func cut[L api.Limbs](a [6]uint64) L { return of[L](number(a)) }

func widen[L api.Limbs](a L) [6]uint64 { return numeral(number(a)) }

// p1 and p2 are a spot as a call takes it; spot1 and spot2 are what it answers, as a spot.
func p1[L api.Limbs](p spot) api.P1[L] {
	return api.P1[L]{X: cut[L](p.X[0]), Y: cut[L](p.Y[0]), Inf: p.Inf}
}

func p2[L api.Limbs](p spot) api.P2[L] {
	return api.P2[L]{X: [2]L{cut[L](p.X[0]), cut[L](p.X[1])}, Y: [2]L{cut[L](p.Y[0]), cut[L](p.Y[1])}, Inf: p.Inf}
}

func spot1[L api.Limbs](p api.P1[L]) spot {
	return spot{X: [2][6]uint64{widen(p.X)}, Y: [2][6]uint64{widen(p.Y)}, Inf: p.Inf}
}

func spot2[L api.Limbs](p api.P2[L]) spot {
	return spot{X: [2][6]uint64{widen(p.X[0]), widen(p.X[1])}, Y: [2][6]uint64{widen(p.Y[0]), widen(p.Y[1])}, Inf: p.Inf}
}

// side is one of the four groups: its law, and the calls for it.
type side struct {
	law
	name        string
	width       uint // bits of a number
	parts       int  // numbers of a coordinate
	base        func() spot
	good, group func(p spot) api.Errno
	plus        func(p, q spot) (spot, api.Errno)
	minus       func(p spot) (spot, api.Errno)
	times       func(p spot, k api.Word) (spot, api.Errno)
}

func first[L api.Limbs](name string, c *curve.Curve[L], m law) side {
	var a L
	return side{
		law: m, name: name, width: uint(64 * len(a)), parts: 1,
		base:  func() spot { return spot1(c.Base1()) },
		good:  func(p spot) api.Errno { return c.Good1(p1[L](p)) },
		group: func(p spot) api.Errno { return c.Group1(p1[L](p)) },
		plus:  func(p, q spot) (spot, api.Errno) { s, e := c.Add1(p1[L](p), p1[L](q)); return spot1(s), e },
		minus: func(p spot) (spot, api.Errno) { s, e := c.Neg1(p1[L](p)); return spot1(s), e },
		times: func(p spot, k api.Word) (spot, api.Errno) { s, e := c.Mul1(p1[L](p), k); return spot1(s), e },
	}
}

func second[L api.Limbs](name string, c *curve.Curve[L], m law) side {
	var a L
	return side{
		law: m, name: name, width: uint(64 * len(a)), parts: 2,
		base:  func() spot { return spot2(c.Base2()) },
		good:  func(p spot) api.Errno { return c.Good2(p2[L](p)) },
		group: func(p spot) api.Errno { return c.Group2(p2[L](p)) },
		plus:  func(p, q spot) (spot, api.Errno) { s, e := c.Add2(p2[L](p), p2[L](q)); return spot2(s), e },
		minus: func(p spot) (spot, api.Errno) { s, e := c.Neg2(p2[L](p)); return spot2(s), e },
		times: func(p spot, k api.Word) (spot, api.Errno) { s, e := c.Mul2(p2[L](p), k); return spot2(s), e },
	}
}

// bnLaw and blsLaw are the curves E1 and E2 by the chapter's words.
func bnLaw() (e1, e2 law) {
	p, r := number(field.BnP()), number(field.BnR())
	e1 = law{p: p, r: r, b: pairOf(3, 0), cofactor: big.NewInt(1)}
	e2 = law{p: p, r: r, cofactor: new(big.Int).Sub(new(big.Int).Lsh(p, 1), r)}
	e2.b = e2.mul(pairOf(3, 0), e2.inv(pairOf(9, 1)))
	return e1, e2
}

func blsLaw() (e1, e2 law) {
	p, r := number(field.BlsP()), number(field.BlsR())
	// The cofactors are polynomials of z.
	z := new(big.Int).Neg(hex("d201000000010000"))
	h1 := plus(z, -1)
	h1.Mul(h1, h1).Div(h1, big.NewInt(3))
	h2 := new(big.Int)
	for _, n := range []int64{1, -4, 5, 0, -4, 6, -4, -4, 13} {
		h2.Mul(h2, z).Add(h2, big.NewInt(n))
	}
	h2.Div(h2, big.NewInt(9))
	return law{p: p, r: r, b: pairOf(4, 0), cofactor: h1}, law{p: p, r: r, b: pairOf(4, 4), cofactor: h2}
}

// sides calls f with each of the four groups.
func sides(t *testing.T, f func(t *testing.T, s side)) {
	t.Helper()
	bn1, bn2 := bnLaw()
	bls1, bls2 := blsLaw()
	for _, s := range []side{
		first("bn254 E1", curve.Bn(), bn1), second("bn254 E2", curve.Bn(), bn2),
		first("BLS12-381 E1", curve.Bls(), bls1), second("BLS12-381 E2", curve.Bls(), bls2),
	} {
		t.Run(s.name, func(t *testing.T) { t.Parallel(); f(t, s) })
	}
}

// lift is a point of that x, if there is one; its y is any of both.
func (s side) lift(x pair) (spot, bool) {
	y, ok := s.root(s.cubed(x), s.parts == 1)
	if !ok {
		return spot{}, false
	}
	return spot{X: out(s.mod(x)), Y: out(y)}, true
}

// pair is x0 + x1 u, and x0 alone if the side is E1.
func (s side) pair(x0, x1 *big.Int) pair {
	if s.parts == 1 {
		x1 = new(big.Int)
	}
	return s.mod(pair{x0, x1})
}

// source makes numbers that look as if by chance, the same ones each time.
type source struct{ at uint64 }

func (s *source) next() uint64 {
	s.at = s.at*6364136223846793005 + 1442695040888963407
	x := s.at ^ s.at>>33
	x *= 0xff51afd7ed558ccd
	return x ^ x>>29
}

// number is any number of 384 bits, often with limbs of noughts or ones.
func (s *source) number() *big.Int {
	var x [6]uint64
	for i := range x {
		switch s.next() >> 61 {
		case 0:
			x[i] = 0
		case 1:
			x[i] = 1<<64 - 1
		default:
			x[i] = s.next()
		}
	}
	return number(x)
}

// word is any word, as number is.
func (s *source) word() api.Word { return word(s.number()) }

// point is any point of the side but infinity; but for bn254's E1 it is hardly ever one of the group.
func (s *source) point(of side) spot {
	for {
		if p, ok := of.lift(of.pair(s.number(), s.number())); ok {
			if s.next()>>63 == 1 {
				p = of.modelNeg(p)
			}
			return p
		}
	}
}

// edge are the points with the least and the greatest x: both of each.
func (s side) edge() []spot {
	var l []spot
	for _, x0 := range []*big.Int{big.NewInt(0), big.NewInt(1), big.NewInt(2), big.NewInt(3), plus(s.p, -1), plus(s.p, -2)} {
		for _, x1 := range []*big.Int{big.NewInt(0), big.NewInt(1), plus(s.p, -1)} {
			if p, ok := s.lift(s.pair(x0, x1)); ok && (s.parts == 2 || x1.Sign() == 0) {
				l = append(l, p, s.modelNeg(p))
			}
		}
	}
	return l
}

// small are points of a small order: none of bn254's E1, whose points are as many as a prime.
func (s side) small(t *testing.T) []spot {
	t.Helper()
	var l []spot
	f := source{at: 5}
	for _, q := range []int64{3, 11, 13, 23, 10069} {
		n := big.NewInt(q)
		if new(big.Int).Mod(s.cofactor, n).Sign() != 0 {
			continue
		}
		for {
			if p, ok := s.ofOrder(f.point(s), n); ok {
				l = append(l, p)
				break
			}
		}
	}
	if len(l) == 0 && s.cofactor.Cmp(big.NewInt(1)) != 0 {
		t.Fatal("no point of a small order")
	}
	return l
}

// members are points of the group: infinity, small multiples of the base and their negatives, and n by chance.
func (s side) members(n int) []spot {
	l := []spot{none()}
	p := none()
	for range 4 {
		p = s.modelAdd(p, s.base())
		l = append(l, p, s.modelNeg(p))
	}
	f := source{at: 7}
	for range n {
		l = append(l, s.modelMul(s.base(), f.number()))
	}
	return l
}

// points are good ones of all kinds: members, edges, of small orders, and n by chance.
func (s side) points(t *testing.T, n int) []spot {
	t.Helper()
	l := append(append(s.members(1), s.edge()...), s.small(t)...)
	f := source{at: 9}
	for range n {
		l = append(l, f.point(s))
	}
	return l
}

// wrong is what is no good point, and why.
type wrong struct {
	name string
	p    spot
	e    api.Errno
}

// put is p with n as one of its numbers: part 0 and 1 of X, then of Y.
func put(p spot, at int, n *big.Int) spot {
	if at < 2 {
		p.X[at] = numeral(n)
	} else {
		p.Y[at-2] = numeral(n)
	}
	return p
}

// numbersOf are the places of a point's numbers, for put.
func (s side) numbersOf() []int {
	if s.parts == 1 {
		return []int{0, 2}
	}
	return []int{0, 1, 2, 3}
}

// bad are no good points.
func (s side) bad() []wrong {
	g := s.base()
	l := []wrong{
		{"0, 0", spot{}, api.ErrCurve},
		{"X and Y turned round", spot{X: g.Y, Y: g.X}, api.ErrCurve},
		{"Inf with a point", spot{X: g.X, Y: g.Y, Inf: true}, api.ErrCoord},
	}
	top := power(s.width, -1)
	for _, at := range s.numbersOf() {
		here := []*big.Int{number(g.X[0]), number(g.X[1]), number(g.Y[0]), number(g.Y[1])}[at]
		for _, n := range []*big.Int{s.p, plus(s.p, 1), power(s.width-1, 0), top, new(big.Int).Add(here, s.p)} {
			l = append(l, wrong{"above p", put(g, at, n), api.ErrCoord})
			l = append(l, wrong{"Inf, above p", put(none(), at, n), api.ErrCoord})
			l = append(l, wrong{"above p and off the curve", put(spot{}, at, n), api.ErrCoord})
		}
		for _, n := range []*big.Int{big.NewInt(1), plus(s.p, -1), power(s.width-64, 0)} {
			l = append(l, wrong{"Inf with a number", put(none(), at, n), api.ErrCoord})
		}
		for _, n := range []*big.Int{plus(here, 1), plus(s.p, -1), big.NewInt(5)} {
			l = append(l, wrong{"off the curve", put(g, at, n), api.ErrCurve})
		}
	}
	return l
}

// want holds a call's answer against the point that it should be.
func want(t *testing.T, name string, got spot, e api.Errno, should spot, args ...any) {
	t.Helper()
	if got != should || e != api.OK {
		t.Fatalf("%s%v: %v, %d, not %v", name, args, got, e, should)
	}
}

// wantError holds a call's answer against an error, and the point that stands beside it.
func wantError(t *testing.T, name string, got spot, e api.Errno, should spot, shouldE api.Errno, args ...any) {
	t.Helper()
	if got != should || e != shouldE {
		t.Fatalf("%s%v: %v, %d, not %v, %d", name, args, got, e, should, shouldE)
	}
}
