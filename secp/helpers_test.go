package secp_test

import (
	"math/big"
	"testing"

	"cairn/api"
	"cairn/field"
	"cairn/secp"
)

// The tests hold package secp against a model: the chapter's words, reckoned by math/big with whole numbers of any size.

// number is x as a whole number.
func number(x api.Word) *big.Int {
	n := new(big.Int)
	for i := len(x) - 1; i >= 0; i-- {
		n.Lsh(n, 64)
		n.Or(n, new(big.Int).SetUint64(x[i]))
	}
	return n
}

// of is a whole number modulo 2^256.
func of(n *big.Int) api.Word {
	var x api.Word
	for i := range x {
		rest := new(big.Int).Rsh(n, uint(64*i))
		x[i] = rest.And(rest, new(big.Int).SetUint64(1<<64-1)).Uint64()
	}
	return x
}

// fromHex is the word of digits to the base 16.
func fromHex(digits string) api.Word {
	n, ok := new(big.Int).SetString(digits, 16)
	if !ok || n.BitLen() > 256 {
		panic(digits)
	}
	return of(n)
}

// plus is x + d modulo 2^256.
func plus(x api.Word, d int64) api.Word { return of(new(big.Int).Add(number(x), big.NewInt(d))) }

// top is the greatest word.
func top() api.Word { return api.Word{1<<64 - 1, 1<<64 - 1, 1<<64 - 1, 1<<64 - 1} }

// hashOf is the hash whose number is x.
func hashOf(x api.Word) api.Hash { return api.Hash(number(x).FillBytes(make([]byte, 32))) }

// numberOf is the number of a hash.
func numberOf(h api.Hash) *big.Int { return new(big.Int).SetBytes(h[:]) }

func modP() *big.Int { return number(field.SecpP()) }

func modN() *big.Int { return number(field.SecpN()) }

// half is n / 2, rounded down.
func half() api.Word { return of(new(big.Int).Rsh(modN(), 1)) }

// reckon is a sum and a product modulo n: (a b + c) modulo n.
func reckon(a, b, c *big.Int) *big.Int {
	x := new(big.Int).Mul(a, b)
	return x.Add(x, c).Mod(x, modN())
}

// over is a / b modulo n.
func over(a, b *big.Int) *big.Int {
	return reckon(a, new(big.Int).ModInverse(b, modN()), new(big.Int))
}

// less is -a modulo n.
func less(a *big.Int) *big.Int { return reckon(a, big.NewInt(-1), new(big.Int)) }

func none() api.Point { return api.Point{Inf: true} }

// modelGood tells whether p is a point.
func modelGood(p api.Point) bool {
	if p.Inf {
		return p.X == api.Word{} && p.Y == api.Word{}
	}
	x, y, m := number(p.X), number(p.Y), modP()
	left, right := new(big.Int).Mul(y, y), new(big.Int).Exp(x, big.NewInt(3), nil)
	left.Sub(left, right.Add(right, big.NewInt(7)))
	return x.Cmp(m) < 0 && y.Cmp(m) < 0 && left.Mod(left, m).Sign() == 0
}

// modelNeg is the point with -Y.
func modelNeg(p api.Point) api.Point {
	if p.Inf {
		return p
	}
	y := new(big.Int).Neg(number(p.Y))
	return api.Point{X: p.X, Y: of(y.Mod(y, modP()))}
}

// modelAdd adds two points as the chapter's opening does.
func modelAdd(p, q api.Point) api.Point {
	switch {
	case p.Inf:
		return q
	case q.Inf:
		return p
	case q == modelNeg(p):
		return none()
	}
	x1, y1, x2, y2, m := number(p.X), number(p.Y), number(q.X), number(q.Y), modP()
	up, across := new(big.Int).Sub(y2, y1), new(big.Int).Sub(x2, x1)
	if p == q {
		up.Mul(x1, x1)
		up.Mul(up, big.NewInt(3))
		across.Lsh(y1, 1)
	}
	slope := up.Mul(up, new(big.Int).ModInverse(across.Mod(across, m), m))
	x := new(big.Int).Mul(slope, slope)
	x.Sub(x, x1).Sub(x, x2).Mod(x, m)
	y := new(big.Int).Sub(x1, x)
	y.Mul(y, slope).Sub(y, y1).Mod(y, m)
	return api.Point{X: of(x), Y: of(y)}
}

// modelMul is k times p, from the least bit on.
func modelMul(p api.Point, k *big.Int) api.Point {
	sum := none()
	for i := range k.BitLen() {
		if k.Bit(i) == 1 {
			sum = modelAdd(sum, p)
		}
		p = modelAdd(p, p)
	}
	return sum
}

// modelLift is the point of that X and oddness, or none.
func modelLift(x api.Word, odd int) (api.Point, bool) {
	m := modP()
	y := new(big.Int).Exp(number(x), big.NewInt(3), nil)
	if odd != 0 && odd != 1 || number(x).Cmp(m) >= 0 || y.Add(y, big.NewInt(7)).ModSqrt(y.Mod(y, m), m) == nil {
		return api.Point{}, false
	}
	if int(y.Bit(0)) != odd {
		y.Sub(m, y)
	}
	return api.Point{X: x, Y: of(y)}, true
}

// isScalar tells whether x is neither 0 nor n or above.
func isScalar(x api.Word) bool { return x != api.Word{} && number(x).Cmp(modN()) < 0 }

// source makes numbers that look as if by chance, the same ones each time.
type source struct{ at uint64 }

func (s *source) next() uint64 {
	s.at = s.at*6364136223846793005 + 1442695040888963407
	x := s.at ^ s.at>>33
	x *= 0xff51afd7ed558ccd
	return x ^ x>>29
}

// word is any word, often with limbs of noughts or ones.
func (s *source) word() api.Word {
	var x api.Word
	for i := range x {
		switch s.next() >> 61 {
		case 0:
			x[i] = 0
		case 1:
			x[i] = 1<<64 - 1
		default:
			x[i] = s.next()
		}
	}
	return x
}

// scalar is a number from 1 to n - 1.
func (s *source) scalar() api.Word {
	for {
		if x := s.word(); isScalar(x) {
			return x
		}
	}
}

// point is any point but Inf, and not known as a multiple of G.
func (s *source) point() api.Point {
	for {
		if p, ok := modelLift(s.word(), int(s.next()>>63)); ok {
			return p
		}
	}
}

// points are the edges and n by chance.
func points(n int) []api.Point {
	g := secp.Base()
	two := modelAdd(g, g)
	l := []api.Point{none(), g, modelNeg(g), two, modelNeg(two), modelAdd(two, g)}
	// The points of the least and of the greatest X, and those whose X is n or above.
	for _, x := range []api.Word{{1}, {2}, {3}, {4}, plus(field.SecpP(), -1), plus(field.SecpP(), -2), plus(field.SecpP(), -3), highX()} {
		for odd := range 2 {
			if p, ok := modelLift(x, odd); ok {
				l = append(l, p)
			}
		}
	}
	s := source{at: 3}
	for range n {
		l = append(l, s.point())
	}
	return l
}

// highX is the least X of a point that is above n.
func highX() api.Word {
	x := plus(field.SecpN(), 1)
	for {
		if _, ok := modelLift(x, 0); ok {
			return x
		}
		x = plus(x, 1)
	}
}

// bad are no points: Inf with more, coordinates that are p or above, or that don't fit one another.
func bad() map[string]api.Point {
	g := secp.Base()
	one, _ := modelLift(api.Word{1}, 0)
	prime := field.SecpP()
	return map[string]api.Point{
		"Inf with X":                  {X: api.Word{1}, Inf: true},
		"Inf with Y":                  {Y: api.Word{0, 0, 0, 1}, Inf: true},
		"Inf with X and Y of a point": {X: g.X, Y: g.Y, Inf: true},
		"Inf with p":                  {X: prime, Y: prime, Inf: true},
		"0, 0":                        {},
		"X of another point":          {X: one.X, Y: g.Y},
		"Y one too great":             {X: g.X, Y: plus(g.Y, 1)},
		"Y one too small":             {X: g.X, Y: plus(g.Y, -1)},
		"X and Y turned round":        {X: g.Y, Y: g.X},
		"no point has that X":         {X: api.Word{5}, Y: api.Word{1}},
		"X that is p":                 {X: prime, Y: g.Y},
		"Y that is p":                 {X: g.X, Y: prime},
		"X that is 1 and p":           {X: plus(prime, 1), Y: one.Y},
		"X that is the greatest":      {X: top(), Y: g.Y},
		"Y that is the greatest":      {X: g.X, Y: top()},
		"both that are the greatest":  {X: top(), Y: top()},
	}
}

// wantPoint holds a call's answer against the point that it should be.
func wantPoint(t *testing.T, name string, got api.Point, e api.Errno, should api.Point, args ...any) {
	t.Helper()
	if got != should || e != api.OK {
		t.Fatalf("%s%v: %v, %d, not %v", name, args, got, e, should)
	}
}

// wantNoPoint holds a call's answer against an error, with nothing beside it (P4).
func wantNoPoint(t *testing.T, name string, got api.Point, e, should api.Errno, args ...any) {
	t.Helper()
	if got != (api.Point{}) || e != should {
		t.Fatalf("%s%v: %v, %d, not %d", name, args, got, e, should)
	}
}
