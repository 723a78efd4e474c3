package field_test

import (
	"math/big"
	"testing"

	"cairn/api"
	"cairn/field"
)

// elements are those of the edges of the ring's modulus, and n by chance.
func elements[L api.Limbs](r *field.Ring[L], n int) []L {
	var l []L
	for _, a := range numbers[L](number(r.Modulus()), n) {
		l = append(l, r.In(a))
	}
	return l
}

// P5.7: what is said of one and of two elements.
func TestRingOfTwo(t *testing.T) { both(t, ringOfTwo[[4]uint64], ringOfTwo[[6]uint64]) }

func ringOfTwo[L api.Limbs](t *testing.T) {
	rings(t, func(r *field.Ring[L], m *big.Int) {
		zero, one := r.In(small[L](0)), r.In(small[L](1))
		l := elements(r, 10)
		for _, x := range l {
			wantNumber(t, "In of Out", r.In(r.Out(x)), x)
			wantNumber(t, "0 added", r.Add(x, zero), x)
			wantNumber(t, "times 1", r.Mul(x, one), x)
			wantNumber(t, "times 0", r.Mul(x, zero), zero)
			wantNumber(t, "x and its negative", r.Add(x, r.Neg(x)), zero)
			for _, y := range l {
				wantNumber(t, "the sum the other way round", r.Add(y, x), r.Add(x, y))
				wantNumber(t, "the product the other way round", r.Mul(y, x), r.Mul(x, y))
				wantNumber(t, "Sub of Add", r.Sub(r.Add(x, y), y), x)
				wantNumber(t, "Add of Sub", r.Add(r.Sub(x, y), y), x)
			}
		}
		for _, a := range below[L](m, 20) {
			wantNumber(t, "Out of In", r.Out(r.In(of[L](a))), of[L](a))
		}
	})
}

// P5.7: what is said of three elements.
func TestRingOfThree(t *testing.T) { both(t, ringOfThree[[4]uint64], ringOfThree[[6]uint64]) }

func ringOfThree[L api.Limbs](t *testing.T) {
	rings(t, func(r *field.Ring[L], m *big.Int) {
		s := source{at: 31}
		for range 200 {
			x, y, z := r.In(limbs[L](&s)), r.In(limbs[L](&s)), r.In(limbs[L](&s))
			wantNumber(t, "sums grouped", r.Add(r.Add(x, y), z), r.Add(x, r.Add(y, z)))
			wantNumber(t, "products grouped", r.Mul(r.Mul(x, y), z), r.Mul(x, r.Mul(y, z)))
			wantNumber(t, "a product of a sum", r.Mul(x, r.Add(y, z)), r.Add(r.Mul(x, y), r.Mul(x, z)))
		}
	})
}

// P5.8
func TestFields(t *testing.T) { both(t, fields[[4]uint64], fields[[6]uint64]) }

func fields[L api.Limbs](t *testing.T) {
	for _, p := range primes[L]() {
		r := ring(t, p)
		zero, one := r.In(small[L](0)), r.In(small[L](1))
		e := words(new(big.Int).Sub(number(p), big.NewInt(1)), 0)
		for _, x := range elements(r, 20) {
			if x == zero {
				wantNumber(t, "Inv of 0", r.Inv(x), zero)
				continue
			}
			wantNumber(t, "x times Inv(x)", r.Mul(x, r.Inv(x)), one)
			wantNumber(t, "x to the m - 1", r.Exp(x, e), one)
		}
	}
}

// P5.8: modulo a prime that is 3 modulo 4 each square has a root, and of x and -x just one has, but for 0.
func TestSquaresHaveRoots(t *testing.T) {
	both(t, squaresHaveRoots[[4]uint64], squaresHaveRoots[[6]uint64])
}

func squaresHaveRoots[L api.Limbs](t *testing.T) {
	tried := 0
	for _, p := range primes[L]() {
		if p[0]%4 != 3 {
			continue
		}
		tried++
		r := ring(t, p)
		zero := r.In(small[L](0))
		for _, x := range elements(r, 20) {
			square := r.Mul(x, x)
			y, ok := r.Root(square)
			if !ok || y != x && y != r.Neg(x) {
				t.Fatalf("modulo %x: Root of %x's square: %x, %v", p, x, y, ok)
			}
			if y, ok := r.Root(r.Neg(square)); x != zero && (ok || y != zero) {
				t.Fatalf("modulo %x: Root of -1 times %x's square: %x, %v", p, x, y, ok)
			}
		}
	}
	if tried < 2 {
		t.Fatal(tried)
	}
}

// P5.9
func TestPowersOfSums(t *testing.T) { both(t, powersOfSums[[4]uint64], powersOfSums[[6]uint64]) }

func powersOfSums[L api.Limbs](t *testing.T) {
	rings(t, func(r *field.Ring[L], m *big.Int) {
		s := source{at: 41}
		l := exponents[L](m)
		for range 40 {
			x := r.In(limbs[L](&s))
			e, f := l[s.next()%uint64(len(l))], l[s.next()%uint64(len(l))]
			sum := words(new(big.Int).Add(exponent(e), exponent(f)), int(s.next()%3))
			wantNumber(t, "powers", r.Mul(r.Exp(x, e), r.Exp(x, f)), r.Exp(x, sum))
		}
		// The sum of e and e carries through all words.
		x, e := r.In(limbs[L](&s)), []uint64{1<<64 - 1, 1<<64 - 1, 1<<64 - 1}
		wantNumber(t, "powers", r.Mul(r.Exp(x, e), r.Exp(x, []uint64{1})), r.Exp(x, []uint64{0, 0, 0, 1}))
	})
}
