package kzg_test

import (
	"bytes"
	"crypto/sha256"
	"math/big"
	"testing"

	"cairn/api"
	"cairn/curve"
	"cairn/field"
	"cairn/kzg"
)

// The tests go by the chapter's own words: nobody knows tau, so that c proves y at z just if the polynomials c - y and proof (X - z)
// are the same, coefficient by coefficient, which whole numbers tell. Package curve, which has tests of its own, makes the points.

type limbs = [6]uint64

type point = api.P1[limbs]

// number is a as a whole number.
func number[L api.Limbs](a L) *big.Int {
	n := new(big.Int)
	for i := len(a) - 1; i >= 0; i-- {
		n.Lsh(n, 64)
		n.Or(n, new(big.Int).SetUint64(a[i]))
	}
	return n
}

// of is a whole number modulo 2^width.
func of[L api.Limbs](n *big.Int) L {
	var a L
	for i := range len(a) {
		rest := new(big.Int).Rsh(n, uint(64*i))
		a[i] = rest.And(rest, new(big.Int).SetUint64(1<<64-1)).Uint64()
	}
	return a
}

// word is a whole number modulo 2^256.
func word(n *big.Int) api.Word { return of[[4]uint64](n) }

// hex is the number of digits to the base 16, octets are their bytes.
func hex(digits string) *big.Int {
	n, ok := new(big.Int).SetString(digits, 16)
	if !ok {
		panic(digits)
	}
	return n
}

func octets(digits string) []byte { return hex(digits).FillBytes(make([]byte, len(digits)/2)) }

// whole is n, plus is n + d, power is 2^n + d.
func whole(n int64) *big.Int { return big.NewInt(n) }

func plus(n *big.Int, d int64) *big.Int { return new(big.Int).Add(n, whole(d)) }

func power(n uint, d int64) *big.Int { return plus(new(big.Int).Lsh(whole(1), n), d) }

// prime is p, and order is r.
func prime() *big.Int { return number(field.BlsP()) }

func order() *big.Int { return number(field.BlsR()) }

// mod, sum and product are taken modulo r.
func mod(n *big.Int) *big.Int { return new(big.Int).Mod(n, order()) }

func sum(m, n *big.Int) *big.Int { return mod(new(big.Int).Add(m, n)) }

func product(m, n *big.Int) *big.Int { return mod(new(big.Int).Mul(m, n)) }

// source makes numbers that look as if by chance, the same ones each time.
type source struct{ at uint64 }

func (s *source) next() uint64 {
	s.at = s.at*6364136223846793005 + 1442695040888963407
	x := s.at ^ s.at>>33
	x *= 0xff51afd7ed558ccd
	return x ^ x>>29
}

// number is any number of 384 bits, scalar is any one below r, octets are n of any bytes.
func (s *source) number() *big.Int {
	var x limbs
	for i := range x {
		x[i] = s.next()
	}
	return number(x)
}

func (s *source) scalar() *big.Int { return mod(s.number()) }

func (s *source) octets(n int) []byte {
	b := make([]byte, n)
	for i := range b {
		b[i] = byte(s.next())
	}
	return b
}

// good is what a call that goes well answers.
func good[P any](p P, e api.Errno) P {
	if e != api.OK {
		panic(e)
	}
	return p
}

func infinity() point { return point{Inf: true} }

// base is Base1; times is k p, k modulo r; add is p + q; neg is -p.
func base() point { return curve.Bls().Base1() }

func times(p point, k *big.Int) point { return good(curve.Bls().Mul1(p, word(mod(k)))) }

func add(p, q point) point { return good(curve.Bls().Add1(p, q)) }

func neg(p point) point { return good(curve.Bls().Neg1(p)) }

// first is k Base1.
func first(k *big.Int) point { return times(base(), k) }

// line is a Base1 + b Power(), which commits to a + b X.
func line(a, b *big.Int) point { return add(first(a), times(kzg.Power(), b)) }

// onLine is a + b z.
func onLine(a, b, z *big.Int) *big.Int { return sum(a, product(b, z)) }

// lift is the point with that x whose y is the greater one, or the smaller one, if there is one.
func lift(x *big.Int, greater bool) (point, bool) {
	p := prime()
	square := new(big.Int).Exp(x, whole(3), p)
	y := new(big.Int).ModSqrt(square.Mod(plus(square, 4), p), p)
	if y == nil {
		return point{}, false
	}
	if isGreater(y) != greater {
		y.Sub(p, y)
	}
	return point{X: of[limbs](x), Y: of[limbs](y)}, true
}

// isGreater tells whether y is above (p - 1) / 2.
func isGreater(y *big.Int) bool { return new(big.Int).Lsh(y, 1).Cmp(prime()) > 0 }

// outsider is the good point with the least x from there on: hardly ever one of the group.
func outsider(x int64) point {
	for ; ; x++ {
		if p, ok := lift(whole(x), false); ok {
			return p
		}
	}
}

// member is a point of the group of which nobody knows which multiple of the base it is, made of an outsider. (That with the least x of
// all makes the base.)
func member(x int64) point {
	// The cofactor of E1 is (z - 1)^2 / 3.
	h := new(big.Int).Neg(plus(hex("d201000000010000"), 1))
	h.Mul(h, h).Div(h, whole(3))
	return good(curve.Bls().Mul1(outsider(x), word(h)))
}

// short are a point's 48 bytes, by chapter 7's words.
func short(p point) []byte {
	b := number(p.X).FillBytes(make([]byte, 48))
	b[0] |= 0x80
	if p.Inf {
		b[0] |= 0x40
	}
	if isGreater(number(p.Y)) {
		b[0] |= 0x20
	}
	return b
}

// blob is a commitment's hash.
func blob(commitment []byte) []byte {
	h := sha256.Sum256(commitment)
	h[0] = 1
	return h[:]
}

// input are the bytes that Check takes, with the right hash; z and y are told modulo 2^256.
func input(z, y *big.Int, commitment, proof []byte) []byte {
	return bytes.Join([][]byte{blob(commitment), wordBytes(z), wordBytes(y), commitment, proof}, nil)
}

// wordBytes are the 32 bytes of a number modulo 2^256.
func wordBytes(n *big.Int) []byte { return number[[4]uint64](word(n)).FillBytes(make([]byte, 32)) }

// claimOf is the input that says of points what Proven is asked.
func claimOf(c, proof point, z, y *big.Int) []byte { return input(z, y, short(c), short(proof)) }

// wantProven holds Proven's answer against what it should be, and that of Check of the same claim.
func wantProven(t *testing.T, name string, should bool, c, proof point, z, y *big.Int) {
	t.Helper()
	if is, e := kzg.Proven(c, proof, word(z), word(y)); is != should || e != api.OK {
		t.Fatalf("%s: Proven(%x, %x, %v, %v): %v, %d, not %v", name, short(c), short(proof), z, y, is, e, should)
	}
	shouldE := api.OK
	if !should {
		shouldE = api.ErrProof
	}
	wantCheck(t, name, shouldE, claimOf(c, proof, z, y))
}

// wantProvenError holds Proven's answer against an error.
func wantProvenError(t *testing.T, name string, should api.Errno, c, proof point, z, y *big.Int) {
	t.Helper()
	if is, e := kzg.Proven(c, proof, word(z), word(y)); is || e != should {
		t.Fatalf("%s: Proven(%v, %v, %v, %v): %v, %d, not %d", name, c, proof, z, y, is, e, should)
	}
}

// wantCheck holds Check's answer against an error, or against 4096 and r.
func wantCheck(t *testing.T, name string, should api.Errno, input []byte) {
	t.Helper()
	var list []byte
	if should == api.OK {
		list = octets("0000000000000000000000000000000000000000000000000000000000001000" +
			"73eda753299d7d483339d80809a1d80553bda402fffe5bfeffffffff00000001")
	}
	if b, e := kzg.Check(input); !bytes.Equal(b, list) || e != should {
		t.Fatalf("%s: Check(%x): %x, %d, not %d", name, input, b, e, should)
	}
}

// bad is no point of the group, and why.
type bad struct {
	name string
	p    point
	e    api.Errno
}

// bads are no points of the group, those of one error behind one another.
func bads() []bad {
	g, p, top := base(), of[limbs](prime()), of[limbs](power(384, -1))
	l := []bad{
		{"x is p", point{X: p, Y: g.Y}, api.ErrCoord},
		{"y is p", point{X: g.X, Y: p}, api.ErrCoord},
		{"x is the base's and p", point{X: of[limbs](new(big.Int).Add(number(g.X), prime())), Y: g.Y}, api.ErrCoord},
		{"y is the base's and p", point{X: g.X, Y: of[limbs](new(big.Int).Add(number(g.Y), prime()))}, api.ErrCoord},
		{"x is the greatest number", point{X: top, Y: g.Y}, api.ErrCoord},
		{"y is the greatest number", point{X: g.X, Y: top}, api.ErrCoord},
		{"both are the greatest number", point{X: top, Y: top}, api.ErrCoord},
		{"Inf with x", point{X: g.X, Inf: true}, api.ErrCoord},
		{"Inf with y", point{Y: limbs{1}, Inf: true}, api.ErrCoord},
		{"Inf with a point", point{X: g.X, Y: g.Y, Inf: true}, api.ErrCoord},
		{"0, 0", point{}, api.ErrCurve},
		{"another y", point{X: g.X, Y: of[limbs](plus(number(g.Y), 1))}, api.ErrCurve},
		{"x and y turned round", point{X: g.Y, Y: g.X}, api.ErrCurve},
	}
	// Of (0, 2) the tangent meets the curve in it alone: 3 times it is at infinity.
	three := point{Y: limbs{2}}
	return append(l,
		bad{"of order 3", three, api.ErrGroup},
		bad{"a member and one of order 3", add(three, g), api.ErrGroup},
		bad{"tau Base1 and one of order 3", add(three, kzg.Power()), api.ErrGroup},
		bad{"any", outsider(1), api.ErrGroup},
		bad{"r times any", good(curve.Bls().Mul1(outsider(1), word(order()))), api.ErrGroup},
	)
}

// kinds are one bad point of each error.
func kinds() (l []bad) {
	for _, x := range bads() {
		if len(l) == 0 || l[len(l)-1].e != x.e {
			l = append(l, x)
		}
	}
	return l
}

// badBytes is no point's 48 bytes, and why.
type badBytes struct {
	name string
	b    []byte
	e    api.Errno
}

// badShorts are 48 bytes of no point of the group, those of one error behind one another.
func badShorts() []badBytes {
	g := number(base().X)
	// flagged are x's bytes, with flags in the highest bits.
	flagged := func(flags byte, x *big.Int) []byte {
		b := x.FillBytes(make([]byte, 48))
		b[0] |= flags
		return b
	}
	var l []badBytes
	for _, flags := range []byte{0, 0x20, 0x40, 0x60, 0xc0, 0xe0} {
		l = append(l, badBytes{"flags of the base", flagged(flags, g), api.ErrFlags})
		if flags != 0xc0 {
			l = append(l, badBytes{"flags of noughts", flagged(flags, whole(0)), api.ErrFlags})
		}
	}
	l = append(l, badBytes{"infinity, and the last bit", flagged(0xc0, whole(1)), api.ErrFlags})
	l = append(l, badBytes{"infinity, and the highest bit", flagged(0xc0, power(380, 0)), api.ErrFlags})
	for _, flags := range []byte{0x80, 0xa0} {
		for _, x := range []*big.Int{prime(), plus(prime(), 1), power(381, -1)} {
			l = append(l, badBytes{"x not below p", flagged(flags, x), api.ErrCoord})
		}
	}
	for _, flags := range []byte{0x80, 0xa0} {
		l = append(l, badBytes{"no y", flagged(flags, whole(1)), api.ErrCurve})
		l = append(l, badBytes{"no y", flagged(flags, plus(prime(), -2)), api.ErrCurve})
	}
	for _, flags := range []byte{0x80, 0xa0} {
		l = append(l, badBytes{"of order 3", flagged(flags, whole(0)), api.ErrGroup})
		l = append(l, badBytes{"any", flagged(flags, number(outsider(1).X)), api.ErrGroup})
	}
	return l
}

// shortKinds are one of badShorts of each error.
func shortKinds() (l []badBytes) {
	for _, x := range badShorts() {
		if len(l) == 0 || l[len(l)-1].e != x.e {
			l = append(l, x)
		}
	}
	return l
}

// edges are the numbers at which something turns.
func edges() []*big.Int {
	return []*big.Int{whole(0), whole(1), plus(order(), -1), order(), plus(order(), 1), power(256, -1)}
}

// edgesBelow are those that are below r.
func edgesBelow() []*big.Int { return edges()[:3] }

// isScalar tells whether n is below r.
func isScalar(n *big.Int) bool { return n.Cmp(order()) < 0 }
