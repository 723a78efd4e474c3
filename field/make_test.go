package field_test

import (
	"testing"

	"cairn/api"
	"cairn/field"
)

// P5.1
func TestMakeRefuses(t *testing.T) { both(t, makeRefuses[[4]uint64], makeRefuses[[6]uint64]) }

func makeRefuses[L api.Limbs](t *testing.T) {
	w := width[L]()
	l := []L{small[L](0), small[L](1), small[L](2), small[L](4), small[L](6), small[L](8), small[L](1<<64 - 2), power[L](w, -2), power[L](w-1, 0), power[L](w-1, 2)}
	for n := uint(1); n < w; n++ {
		l = append(l, power[L](n, 0))
	}
	s := source{at: 3}
	for range 200 {
		a := limbs[L](&s)
		a[0] &^= 1
		l = append(l, a)
	}
	for _, a := range l {
		if r, e := field.Make(a); r != nil || e != api.ErrModulus {
			t.Fatalf("Make(%x): %v, %d", a, r, e)
		}
	}
}

// P5.1, P5.2: all odd numbers but 1, those with a least limb of 1 included.
func TestMakeTakes(t *testing.T) { both(t, makeTakes[[4]uint64], makeTakes[[6]uint64]) }

func makeTakes[L api.Limbs](t *testing.T) {
	l := moduli[L]()
	for n := uint(1); n < width[L](); n++ {
		l = append(l, power[L](n, 1))
		if n > 1 {
			l = append(l, power[L](n, -1))
		}
	}
	s := source{at: 4}
	for range 200 {
		a := limbs[L](&s)
		a[0] |= 3
		l = append(l, a)
	}
	for _, m := range l {
		r, e := field.Make(m)
		if r == nil || e != api.OK || r.Modulus() != m {
			t.Fatalf("Make(%x): %v, %d", m, r, e)
		}
	}
}

// P5.1: every method of a ring that nobody made answers noughts.
func TestNobodysRing(t *testing.T) { both(t, nobodysRing[[4]uint64], nobodysRing[[6]uint64]) }

func nobodysRing[L api.Limbs](t *testing.T) {
	var none L
	for _, r := range []*field.Ring[L]{nil, new(field.Ring[L])} {
		wantNumber(t, "Modulus", r.Modulus(), none)
		for _, a := range numbers[L](number(small[L](7)), 20) {
			wantNumber(t, "In", r.In(a), none)
			wantNumber(t, "Out", r.Out(a), none)
			wantNumber(t, "Neg", r.Neg(a), none)
			wantNumber(t, "Inv", r.Inv(a), none)
			for _, b := range []L{none, small[L](1), a, top[L]()} {
				wantNumber(t, "Add", r.Add(a, b), none)
				wantNumber(t, "Sub", r.Sub(a, b), none)
				wantNumber(t, "Mul", r.Mul(a, b), none)
			}
			for _, e := range [][]uint64{nil, {}, {0}, {1}, {2, 3}} {
				wantNumber(t, "Exp", r.Exp(a, e), none)
			}
			if x, ok := r.Root(a); x != none || ok {
				t.Fatalf("Root(%x): %x, %v", a, x, ok)
			}
		}
	}
}

// P3: rings of one modulus are alike, whatever was made and reckoned between.
func TestRingsOfOneModulus(t *testing.T) { both(t, ringsOfOne[[4]uint64], ringsOfOne[[6]uint64]) }

func ringsOfOne[L api.Limbs](t *testing.T) {
	m := of[L](number(field.BnP()))
	first := ring(t, m)
	x := first.In(small[L](12345))
	other := ring(t, small[L](7))
	other.Mul(other.In(small[L](5)), other.In(small[L](6)))
	second := ring(t, m)
	wantNumber(t, "In", second.In(small[L](12345)), x)
	wantNumber(t, "Mul", second.Mul(x, x), first.Mul(x, x))
	wantNumber(t, "Modulus", first.Modulus(), m)
}
