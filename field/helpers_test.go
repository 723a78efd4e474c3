package field_test

import (
	"math/big"
	"testing"

	"cairn/api"
	"cairn/field"
)

// The tests hold package field against math/big, which reckons with whole numbers of any size, for both widths.

// both runs a test of each width.
func both(t *testing.T, narrow, wide func(t *testing.T)) {
	t.Run("256", narrow)
	t.Run("384", wide)
}

// width is how many bits L has.
func width[L api.Limbs]() uint {
	var a L
	return uint(64 * len(a))
}

// number is a as a whole number, its least limb first.
func number[L api.Limbs](a L) *big.Int {
	n := new(big.Int)
	for i := len(a) - 1; i >= 0; i-- {
		n.Lsh(n, 64)
		n.Or(n, new(big.Int).SetUint64(a[i]))
	}
	return n
}

// of is a whole number modulo 2^width.
func of[L api.Limbs](n *big.Int) L {
	var a L
	for i := range len(a) {
		rest := new(big.Int).Rsh(n, uint(64*i))
		a[i] = rest.And(rest, new(big.Int).SetUint64(1<<64-1)).Uint64()
	}
	return a
}

// small is n as a number of the width.
func small[L api.Limbs](n uint64) L { return of[L](new(big.Int).SetUint64(n)) }

// power is 2^n + more.
func power[L api.Limbs](n uint, more int64) L {
	return of[L](new(big.Int).Add(new(big.Int).Lsh(big.NewInt(1), n), big.NewInt(more)))
}

// top is the greatest number of the width.
func top[L api.Limbs]() L { return power[L](width[L](), -1) }

// hex is the number of digits to the base 16.
func hex(digits string) *big.Int {
	n, ok := new(big.Int).SetString(digits, 16)
	if !ok {
		panic(digits)
	}
	return n
}

// source makes numbers that look as if by chance, the same ones each time.
type source struct{ at uint64 }

func (s *source) next() uint64 {
	s.at = s.at*6364136223846793005 + 1442695040888963407
	x := s.at ^ s.at>>33
	x *= 0xff51afd7ed558ccd
	return x ^ x>>29
}

// limb is any number, and often one of those at which carries turn.
func (s *source) limb() uint64 {
	switch s.next() >> 60 {
	case 0, 1:
		return 0
	case 2, 3:
		return 1<<64 - 1
	case 4:
		return 1 << 63
	case 5:
		return 1
	case 6:
		return 1<<64 - 2
	case 7:
		return s.next() >> (s.next() % 64)
	}
	return s.next()
}

// limbs is any number of the width.
func limbs[L api.Limbs](s *source) L {
	var a L
	for i := range len(a) {
		a[i] = s.limb()
	}
	return a
}

// primes are those of the chapter that fit the width, and one of 384 bits whose highest bit is set.
func primes[L api.Limbs]() []L {
	var l []L
	for _, p := range [][4]uint64{field.SecpP(), field.SecpN(), field.BnP(), field.BnR(), field.BlsR()} {
		l = append(l, of[L](number(p)))
	}
	if width[L]() == 384 {
		l = append(l, of[L](number(field.BlsP())))
		l = append(l, of[L](hex("fffffffffffffffffffffffffffffffffffffffffffffffffffffffffffffffeffffffff0000000000000000ffffffff")))
	}
	return l
}

// moduli are odd numbers from 3 on: small ones, the greatest, such with the highest limb 0, with the highest bit set, with limbs of
// noughts and of ones; and the primes.
func moduli[L api.Limbs]() []L {
	l := primes[L]()
	for _, n := range []uint64{3, 5, 7, 9, 15, 17, 21, 255, 257, 1<<64 - 1, 1<<64 - 59} {
		l = append(l, small[L](n))
	}
	for n := uint(64); n < width[L](); n += 64 {
		l = append(l, power[L](n, -1), power[L](n, 1))
	}
	w := width[L]()
	l = append(l, power[L](w-1, -1), power[L](w-1, 1), power[L](w-2, 1), top[L](), power[L](w, -3))
	s := source{at: 11}
	for range 10 {
		a := limbs[L](&s)
		a[0] |= 3
		b := limbs[L](&s)
		b[0] = b[0]&^3 | 5
		b[len(b)-1] = 0
		l = append(l, a, b)
	}
	return l
}

// ring is what Make makes.
func ring[L api.Limbs](t *testing.T, m L) *field.Ring[L] {
	t.Helper()
	r, e := field.Make(m)
	if r == nil || e != api.OK {
		t.Fatalf("Make(%x): %v, %d", m, r, e)
	}
	return r
}

// rings calls f with a ring of every modulus.
func rings[L api.Limbs](t *testing.T, f func(r *field.Ring[L], m *big.Int)) {
	t.Helper()
	for _, m := range moduli[L]() {
		f(ring(t, m), number(m))
	}
}

// edges are the numbers of the width at which something turns modulo m.
func edges[L api.Limbs](m *big.Int) []L {
	l := []L{small[L](0), small[L](1), small[L](2), small[L](3), top[L](), power[L](width[L](), -2)}
	for _, d := range []int64{-2, -1, 0, 1, 2} {
		l = append(l, of[L](new(big.Int).Add(m, big.NewInt(d))))
	}
	half := new(big.Int).Rsh(m, 1)
	l = append(l, of[L](half), of[L](half.Add(half, big.NewInt(1))))
	for n := uint(64); n < width[L](); n += 64 {
		l = append(l, power[L](n, -1), power[L](n, 0))
	}
	return l
}

// numbers are the edges of m and n numbers by chance.
func numbers[L api.Limbs](m *big.Int, n int) []L {
	l := edges[L](m)
	s := source{at: 5}
	for range n {
		l = append(l, limbs[L](&s))
	}
	return l
}

// below are numbers below m: the edges, and n by chance.
func below[L api.Limbs](m *big.Int, n int) []*big.Int {
	var l []*big.Int
	for _, a := range numbers[L](m, n) {
		x := number(a)
		l = append(l, x.Mod(x, m))
	}
	return l
}

// in is the element that stands for n modulo m.
func in[L api.Limbs](r *field.Ring[L], n *big.Int) L {
	return r.In(of[L](new(big.Int).Mod(n, number(r.Modulus()))))
}

// want holds an element against the number, modulo m, that it should stand for; elements of one number must be the same.
func want[L api.Limbs](t *testing.T, name string, r *field.Ring[L], got L, should *big.Int, args ...*big.Int) {
	t.Helper()
	m := number(r.Modulus())
	n := of[L](new(big.Int).Mod(should, m))
	if r.Out(got) != n {
		t.Fatalf("modulo %x: %s%x stands for %x, not %x", m, name, args, r.Out(got), n)
	}
	if got != r.In(n) {
		t.Fatalf("modulo %x: %s%x: %x, but the element of that number is %x", m, name, args, got, r.In(n))
	}
}

// wantNumber holds a number against what it should be.
func wantNumber[L api.Limbs](t *testing.T, name string, got, should L) {
	t.Helper()
	if got != should {
		t.Fatalf("%s: %x, not %x", name, got, should)
	}
}

// words are the 64-bit words of n, the least first, with so many noughts behind them.
func words(n *big.Int, noughts int) []uint64 {
	var l []uint64
	for rest := new(big.Int).Set(n); rest.Sign() > 0; rest.Rsh(rest, 64) {
		l = append(l, new(big.Int).And(rest, new(big.Int).SetUint64(1<<64-1)).Uint64())
	}
	return append(l, make([]uint64, noughts)...)
}

// exponent is the number of words, the least first.
func exponent(e []uint64) *big.Int {
	n := new(big.Int)
	for i := len(e) - 1; i >= 0; i-- {
		n.Lsh(n, 64)
		n.Or(n, new(big.Int).SetUint64(e[i]))
	}
	return n
}
