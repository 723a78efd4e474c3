package field_test

import (
	"math/big"
	"testing"

	"cairn/api"
	"cairn/field"
)

// P5.2: any number of the width goes in, and comes out modulo m.
func TestInOut(t *testing.T) { both(t, inOut[[4]uint64], inOut[[6]uint64]) }

func inOut[L api.Limbs](t *testing.T) {
	rings(t, func(r *field.Ring[L], m *big.Int) {
		wantNumber(t, "Modulus", r.Modulus(), of[L](m))
		for _, a := range numbers[L](m, 200) {
			should := of[L](new(big.Int).Mod(number(a), m))
			if got := r.Out(r.In(a)); got != should {
				t.Fatalf("modulo %x: Out(In(%x)): %x, not %x", m, a, got, should)
			}
			if r.In(a) != r.In(should) {
				t.Fatalf("modulo %x: two elements of %x", m, should)
			}
		}
	})
}

// The word 'stands for': unlike numbers below m have unlike elements.
func TestUnlikeElements(t *testing.T) { both(t, unlikeElements[[4]uint64], unlikeElements[[6]uint64]) }

func unlikeElements[L api.Limbs](t *testing.T) {
	for _, m := range []uint64{3, 5, 9, 97, 255} {
		r := ring(t, small[L](m))
		seen := map[L]uint64{}
		for n := range m {
			x := r.In(small[L](n))
			if other, ok := seen[x]; ok {
				t.Fatalf("modulo %d: %d and %d are one element", m, other, n)
			}
			seen[x] = n
		}
	}
}

// P5.3
func TestSums(t *testing.T) { both(t, sums[[4]uint64], sums[[6]uint64]) }

func sums[L api.Limbs](t *testing.T) {
	rings(t, func(r *field.Ring[L], m *big.Int) {
		l := below[L](m, 10)
		for _, a := range l {
			x := in(r, a)
			want(t, "Neg", r, r.Neg(x), new(big.Int).Neg(a), a)
			for _, b := range l {
				y := in(r, b)
				want(t, "Add", r, r.Add(x, y), new(big.Int).Add(a, b), a, b)
				want(t, "Sub", r, r.Sub(x, y), new(big.Int).Sub(a, b), a, b)
			}
		}
	})
}

// P5.3
func TestProducts(t *testing.T) { both(t, products[[4]uint64], products[[6]uint64]) }

func products[L api.Limbs](t *testing.T) {
	rings(t, func(r *field.Ring[L], m *big.Int) {
		l := below[L](m, 20)
		for _, a := range l {
			for _, b := range l {
				want(t, "Mul", r, r.Mul(in(r, a), in(r, b)), new(big.Int).Mul(a, b), a, b)
			}
		}
	})
}

// P5.3: what one call answers goes into the next one, as it is.
func TestLongReckonings(t *testing.T) { both(t, longReckonings[[4]uint64], longReckonings[[6]uint64]) }

func longReckonings[L api.Limbs](t *testing.T) {
	rings(t, func(r *field.Ring[L], m *big.Int) {
		s := source{at: 21}
		a, b := number(limbs[L](&s)), number(limbs[L](&s))
		x, y := r.In(of[L](a)), r.In(of[L](b))
		for range 300 {
			switch s.next() % 4 {
			case 0:
				x, a = r.Add(x, y), new(big.Int).Add(a, b)
			case 1:
				x, a = r.Sub(x, y), new(big.Int).Sub(a, b)
			case 2:
				x, a = r.Mul(x, y), new(big.Int).Mul(a, b)
			case 3:
				x, a = r.Neg(x), new(big.Int).Neg(a)
			}
			a.Mod(a, m)
			x, y, a, b = y, x, b, a
			want(t, "reckoned", r, y, b)
		}
	})
}

// P5.3: here the elements themselves are at the edges, if they are kept in Montgomery's form: those of the edges divided by R are.
func TestEdgesOfElements(t *testing.T) {
	both(t, edgesOfElements[[4]uint64], edgesOfElements[[6]uint64])
}

func edgesOfElements[L api.Limbs](t *testing.T) {
	rings(t, func(r *field.Ring[L], m *big.Int) {
		radix := new(big.Int).Lsh(big.NewInt(1), width[L]())
		back := new(big.Int).ModInverse(radix, m)
		var l []*big.Int
		for _, e := range below[L](m, 5) {
			l = append(l, e.Mul(e, back).Mod(e, m))
		}
		for _, a := range l {
			for _, b := range l {
				x, y := in(r, a), in(r, b)
				want(t, "Add", r, r.Add(x, y), new(big.Int).Add(a, b), a, b)
				want(t, "Sub", r, r.Sub(x, y), new(big.Int).Sub(a, b), a, b)
				want(t, "Mul", r, r.Mul(x, y), new(big.Int).Mul(a, b), a, b)
			}
		}
	})
}

// P5.2, P5.3: all of small rings.
func TestSmallRings(t *testing.T) { both(t, smallRings[[4]uint64], smallRings[[6]uint64]) }

func smallRings[L api.Limbs](t *testing.T) {
	for m := uint64(3); m < 40; m += 2 {
		r := ring(t, small[L](m))
		at := func(n uint64) L { return r.In(small[L](n)) }
		for a := range m {
			wantNumber(t, "Out", r.Out(at(a)), small[L](a))
			wantNumber(t, "Neg", r.Neg(at(a)), at((m-a)%m))
			for b := range m {
				wantNumber(t, "Add", r.Add(at(a), at(b)), at((a+b)%m))
				wantNumber(t, "Sub", r.Sub(at(a), at(b)), at((m+a-b)%m))
				wantNumber(t, "Mul", r.Mul(at(a), at(b)), at(a*b%m))
			}
		}
	}
}

// The word 'element': what isn't one may be handed in, and the call ends; nothing of that stays in the ring.
func TestStrangers(t *testing.T) { both(t, strangers[[4]uint64], strangers[[6]uint64]) }

func strangers[L api.Limbs](t *testing.T) {
	rings(t, func(r *field.Ring[L], m *big.Int) {
		one := r.In(small[L](1))
		l := numbers[L](m, 5)
		for _, a := range l {
			r.Out(a)
			r.Neg(a)
			for _, b := range l {
				r.Add(a, b)
				r.Sub(a, b)
				r.Mul(a, b)
			}
		}
		for _, a := range []L{of[L](m), top[L]()} {
			r.Exp(a, []uint64{1<<64 - 1, 1<<64 - 1})
			r.Inv(a)
			if x, ok := r.Root(a); !ok && x != small[L](0) {
				t.Fatalf("modulo %x: Root(%x): %x, false", m, a, x)
			}
		}
		want(t, "In", r, one, big.NewInt(1))
		want(t, "Mul", r, r.Mul(one, one), big.NewInt(1))
	})
}
