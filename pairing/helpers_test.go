package pairing_test

import (
	"math/big"
	"slices"
	"testing"

	"cairn/api"
	"cairn/curve"
	"cairn/field"
	"cairn/pairing"
)

// The tests go by the chapter's own words: of points that are made as multiples of the bases, it is told by whole numbers whether a
// product is 1. Package curve, which has tests of its own, makes the points.

// number is a as a whole number.
func number[L api.Limbs](a L) *big.Int {
	n := new(big.Int)
	for i := len(a) - 1; i >= 0; i-- {
		n.Lsh(n, 64)
		n.Or(n, new(big.Int).SetUint64(a[i]))
	}
	return n
}

// of is a whole number modulo 2^width.
func of[L api.Limbs](n *big.Int) L {
	var a L
	for i := range len(a) {
		rest := new(big.Int).Rsh(n, uint(64*i))
		a[i] = rest.And(rest, new(big.Int).SetUint64(1<<64-1)).Uint64()
	}
	return a
}

// word is a whole number modulo 2^256.
func word(n *big.Int) api.Word { return of[[4]uint64](n) }

// hex is the number of digits to the base 16.
func hex(digits string) *big.Int {
	n, ok := new(big.Int).SetString(digits, 16)
	if !ok {
		panic(digits)
	}
	return n
}

// plus is n + d, times is m n, power is 2^n + d.
func plus(n *big.Int, d int64) *big.Int { return new(big.Int).Add(n, big.NewInt(d)) }

func times(m, n *big.Int) *big.Int { return new(big.Int).Mul(m, n) }

func power(n uint, d int64) *big.Int { return plus(new(big.Int).Lsh(big.NewInt(1), n), d) }

// source makes numbers that look as if by chance, the same ones each time.
type source struct{ at uint64 }

func (s *source) next() uint64 {
	s.at = s.at*6364136223846793005 + 1442695040888963407
	x := s.at ^ s.at>>33
	x *= 0xff51afd7ed558ccd
	return x ^ x>>29
}

// number is any number of 384 bits.
func (s *source) number() *big.Int {
	var x [6]uint64
	for i := range x {
		x[i] = s.next()
	}
	return number(x)
}

// below is any number from 1 to n - 1.
func (s *source) below(n *big.Int) *big.Int {
	x := s.number()
	return plus(x.Mod(x, plus(n, -1)), 1)
}

// side is one of the two curves, with the calls for it.
type side[L api.Limbs] struct {
	c      *curve.Curve[L]
	ring   *field.Ring[L]
	p, r   *big.Int
	b1     *big.Int    // E1 is y^2 = x^3 + b1
	b2     [2]*big.Int // E2 is y^2 = x^3 + b2
	h1, h2 *big.Int    // how many times r points E1 and E2 have
	is     func(p []api.P1[L], q []api.P2[L]) (bool, api.Errno)
	sum    func(l []api.Term[L]) (api.P1[L], api.Errno)
}

func bnSide(t *testing.T) side[[4]uint64] {
	t.Helper()
	p, r := number(field.BnP()), number(field.BnR())
	ring, e := field.Make(field.BnP())
	if e != api.OK {
		t.Fatal(e)
	}
	// 3 / (9 + u) is (27 - 3 u) / 82.
	over := new(big.Int).ModInverse(big.NewInt(82), p)
	return side[[4]uint64]{
		c: curve.Bn(), ring: ring, p: p, r: r,
		b1: big.NewInt(3), b2: [2]*big.Int{times(over, big.NewInt(27)), times(over, big.NewInt(-3))},
		h1: big.NewInt(1), h2: new(big.Int).Sub(new(big.Int).Lsh(p, 1), r),
		is: pairing.Bn, sum: pairing.BnSum,
	}
}

func blsSide(t *testing.T) side[[6]uint64] {
	t.Helper()
	ring, e := field.Make(field.BlsP())
	if e != api.OK {
		t.Fatal(e)
	}
	// How many points the curves have are polynomials of z.
	z := new(big.Int).Neg(hex("d201000000010000"))
	h1 := plus(z, -1)
	h1.Mul(h1, h1).Div(h1, big.NewInt(3))
	h2 := new(big.Int)
	for _, n := range []int64{1, -4, 5, 0, -4, 6, -4, -4, 13} {
		h2.Mul(h2, z).Add(h2, big.NewInt(n))
	}
	h2.Div(h2, big.NewInt(9))
	return side[[6]uint64]{
		c: curve.Bls(), ring: ring, p: number(field.BlsP()), r: number(field.BlsR()),
		b1: big.NewInt(4), b2: [2]*big.Int{big.NewInt(4), big.NewInt(4)},
		h1: h1, h2: h2, is: pairing.Bls, sum: pairing.BlsSum,
	}
}

// both runs a test over each curve.
func both(t *testing.T, narrow func(*testing.T, side[[4]uint64]), wide func(*testing.T, side[[6]uint64])) {
	t.Helper()
	t.Parallel()
	t.Run("bn254", func(t *testing.T) { t.Parallel(); narrow(t, bnSide(t)) })
	t.Run("BLS12-381", func(t *testing.T) { t.Parallel(); wide(t, blsSide(t)) })
}

func none1[L api.Limbs]() api.P1[L] { return api.P1[L]{Inf: true} }

func none2[L api.Limbs]() api.P2[L] { return api.P2[L]{Inf: true} }

// point is what a call of package curve answers that goes well.
func point[P any](p P, e api.Errno) P {
	if e != api.OK {
		panic(e)
	}
	return p
}

// first and second are k times the bases, k modulo r.
func (s side[L]) first(k *big.Int) api.P1[L] {
	return point(s.c.Mul1(s.c.Base1(), word(new(big.Int).Mod(k, s.r))))
}

func (s side[L]) second(k *big.Int) api.P2[L] {
	return point(s.c.Mul2(s.c.Base2(), word(new(big.Int).Mod(k, s.r))))
}

// neg1 and neg2 are the negatives.
func (s side[L]) neg1(p api.P1[L]) api.P1[L] { return point(s.c.Neg1(p)) }

func (s side[L]) neg2(p api.P2[L]) api.P2[L] { return point(s.c.Neg2(p)) }

// edges are the numbers of multiples at which something turns.
func (s side[L]) edges() []*big.Int {
	return []*big.Int{big.NewInt(0), big.NewInt(1), plus(s.r, -1), s.r, plus(s.r, 1), power(256, -1)}
}

// lift1 is a point of E1 with that x, if there is one.
func (s side[L]) lift1(x *big.Int) (api.P1[L], bool) {
	in := func(n *big.Int) L { return s.ring.In(of[L](new(big.Int).Mod(n, s.p))) }
	y, ok := s.ring.Root(in(plus(times(x, times(x, x)), s.b1.Int64())))
	return api.P1[L]{X: s.ring.Out(in(x)), Y: s.ring.Out(y)}, ok
}

// lift2 is a point of E2 with the x that x0 + u is, if there is one.
func (s side[L]) lift2(x0 *big.Int) (api.P2[L], bool) {
	mod := func(n *big.Int) *big.Int { return new(big.Int).Mod(n, s.p) }
	// x^3 is x0^3 - 3 x0 + (3 x0^2 - 1) u.
	square := times(x0, x0)
	a0 := mod(new(big.Int).Add(times(x0, plus(square, -3)), s.b2[0]))
	a1 := mod(new(big.Int).Add(plus(times(big.NewInt(3), square), -1), s.b2[1]))
	// With (y0 + y1 u)^2 = a0 + a1 u: y0^2 + y1^2 is a root of a0^2 + a1^2, and y0^2 half of its sum with a0.
	n := new(big.Int).ModSqrt(mod(new(big.Int).Add(times(a0, a0), times(a1, a1))), s.p)
	if n == nil {
		return api.P2[L]{}, false
	}
	half := new(big.Int).ModInverse(big.NewInt(2), s.p)
	for _, n := range []*big.Int{n, new(big.Int).Neg(n)} {
		y0 := new(big.Int).ModSqrt(mod(times(half, new(big.Int).Add(a0, n))), s.p)
		if y0 == nil || y0.Sign() == 0 {
			continue
		}
		y1 := mod(times(a1, new(big.Int).ModInverse(new(big.Int).Lsh(y0, 1), s.p)))
		return api.P2[L]{X: [2]L{of[L](mod(x0)), of[L](big.NewInt(1))}, Y: [2]L{of[L](y0), of[L](y1)}}, true
	}
	return api.P2[L]{}, false
}

// any1 and any2 are the first n points of E1 and E2 from x on. But for bn254's E1 they are hardly ever of the group.
func (s side[L]) any1(x int64, n int) []api.P1[L] {
	var l []api.P1[L]
	for ; len(l) < n; x++ {
		if p, ok := s.lift1(big.NewInt(x)); ok {
			l = append(l, p)
		}
	}
	return l
}

func (s side[L]) any2(x int64, n int) []api.P2[L] {
	var l []api.P2[L]
	for ; len(l) < n; x++ {
		if p, ok := s.lift2(big.NewInt(x)); ok {
			l = append(l, p)
		}
	}
	return l
}

// member1 and member2 are points of the groups, made of any of the curves: nobody knows which multiples of the bases they are.
func (s side[L]) member1(p api.P1[L]) api.P1[L] { return point(s.c.Mul1(p, word(s.h1))) }

func (s side[L]) member2(p api.P2[L]) api.P2[L] {
	sum := none2[L]()
	for i := s.h2.BitLen() / 64; i >= 0; i-- {
		digit := new(big.Int).Rsh(s.h2, uint(64*i)).Uint64()
		sum = point(s.c.Mul2(sum, api.Word{0, 1}))
		sum = point(s.c.Add2(sum, point(s.c.Mul2(p, api.Word{digit}))))
	}
	return sum
}

// want holds the call's answer against what it should be.
func (s side[L]) want(t *testing.T, name string, should bool, p []api.P1[L], q []api.P2[L]) {
	t.Helper()
	if is, e := s.is(p, q); is != should || e != api.OK {
		t.Fatalf("%s: %v, %d, not %v", name, is, e, should)
	}
}

// wantError holds the call's answer against an error.
func (s side[L]) wantError(t *testing.T, name string, should api.Errno, p []api.P1[L], q []api.P2[L]) {
	t.Helper()
	if is, e := s.is(p, q); is || e != should {
		t.Fatalf("%s: %v, %d, not %d", name, is, e, should)
	}
}

// list1 and list2 are lists of points.
func list1[L api.Limbs](p ...api.P1[L]) []api.P1[L] { return slices.Clone(p) }

func list2[L api.Limbs](q ...api.P2[L]) []api.P2[L] { return slices.Clone(q) }

// bad1 and bad2 are no points of the group, and why.
type bad1[L api.Limbs] struct {
	name string
	p    api.P1[L]
	e    api.Errno
}

type bad2[L api.Limbs] struct {
	name string
	q    api.P2[L]
	e    api.Errno
}

// offCurve are no good points of E1.
func (s side[L]) offCurve() []bad1[L] {
	base, p, top := s.c.Base1(), of[L](s.p), of[L](power(384, -1))
	above := of[L](new(big.Int).Add(number(base.X), s.p))
	next := of[L](plus(number(base.Y), 1))
	return []bad1[L]{
		{"x is p", api.P1[L]{X: p, Y: base.Y}, api.ErrCoord},
		{"y is p", api.P1[L]{X: base.X, Y: p}, api.ErrCoord},
		{"x is the base's and p", api.P1[L]{X: above, Y: base.Y}, api.ErrCoord},
		{"y is the greatest number", api.P1[L]{X: base.X, Y: top}, api.ErrCoord},
		{"Inf with x", api.P1[L]{X: base.X, Inf: true}, api.ErrCoord},
		{"Inf with a point", api.P1[L]{X: base.X, Y: base.Y, Inf: true}, api.ErrCoord},
		{"0, 0", api.P1[L]{}, api.ErrCurve},
		{"another y", api.P1[L]{X: base.X, Y: next}, api.ErrCurve},
		{"x and y turned round", api.P1[L]{X: base.Y, Y: base.X}, api.ErrCurve},
	}
}

// outsiders1 are good points of E1 that are none of the group: none over bn254.
func (s side[L]) outsiders1() []bad1[L] {
	if s.h1.Cmp(big.NewInt(1)) == 0 {
		return nil
	}
	// Of (0, 2) the tangent meets the curve in it alone: 3 times it is at infinity.
	three := api.P1[L]{Y: of[L](big.NewInt(2))}
	return []bad1[L]{
		{"of order 3", three, api.ErrGroup},
		{"a member and one of order 3", point(s.c.Add1(three, s.c.Base1())), api.ErrGroup},
		{"any", s.any1(1, 1)[0], api.ErrGroup},
		{"r times any", point(s.c.Mul1(s.any1(1, 1)[0], word(s.r))), api.ErrGroup},
	}
}

func (s side[L]) bad1() []bad1[L] { return append(s.offCurve(), s.outsiders1()...) }

func (s side[L]) bad2() []bad2[L] {
	base, p, one := s.c.Base2(), of[L](s.p), of[L](big.NewInt(1))
	l := []bad2[L]{
		{"Inf with a point", api.P2[L]{X: base.X, Y: base.Y, Inf: true}, api.ErrCoord},
		{"Inf with a number", api.P2[L]{Y: [2]L{1: one}, Inf: true}, api.ErrCoord},
		{"0, 0", api.P2[L]{}, api.ErrCurve},
		{"another y", api.P2[L]{X: base.X, Y: [2]L{base.Y[0], one}}, api.ErrCurve},
		{"the parts turned round", api.P2[L]{X: [2]L{base.X[1], base.X[0]}, Y: [2]L{base.Y[1], base.Y[0]}}, api.ErrCurve},
	}
	for i := range 2 {
		x, y := base, base
		x.X[i], y.Y[i] = p, p
		l = append(l, bad2[L]{"x has p", x, api.ErrCoord}, bad2[L]{"y has p", y, api.ErrCoord})
	}
	any := s.any2(1, 1)[0]
	return append(l,
		bad2[L]{"any", any, api.ErrGroup},
		bad2[L]{"a member and any", point(s.c.Add2(any, base)), api.ErrGroup},
		bad2[L]{"r times any", point(s.c.Mul2(any, word(s.r))), api.ErrGroup},
	)
}
