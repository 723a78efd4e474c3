package field_test

import (
	"math/big"
	"testing"

	"cairn/api"
	"cairn/field"
)

// exponents are of no words, of one, of as many as the width has and of more, some with noughts as highest words.
func exponents[L api.Limbs](m *big.Int) [][]uint64 {
	s := source{at: 8}
	l := [][]uint64{nil, {}, {0}, {0, 0}, {1}, {2}, {3}, {255}, {1 << 63}, {1<<64 - 1}, {0, 1}, {1, 1}, {5, 0}, {0, 0, 0, 0, 0, 0, 1}}
	l = append(l, words(m, 0), words(m, 1), words(number(top[L]()), 0), words(new(big.Int).Sub(m, big.NewInt(1)), 5))
	for n := range 10 {
		var e []uint64
		for range n {
			e = append(e, s.limb())
		}
		l = append(l, e, append(e[:len(e):len(e)], 0, 0))
	}
	return l
}

// P5.4
func TestExp(t *testing.T) { both(t, exp[[4]uint64], exp[[6]uint64]) }

func exp[L api.Limbs](t *testing.T) {
	rings(t, func(r *field.Ring[L], m *big.Int) {
		s := source{at: 7}
		bases := []*big.Int{new(big.Int), big.NewInt(1), big.NewInt(2), new(big.Int).Sub(m, big.NewInt(1)), new(big.Int).Mod(number(limbs[L](&s)), m)}
		for _, a := range bases {
			for _, e := range exponents[L](m) {
				want(t, "Exp", r, r.Exp(in(r, a), e), new(big.Int).Exp(a, exponent(e), m), a, exponent(e))
			}
		}
	})
}

// P5.4: to the 0 all is 1, 0 too; the words' order tells.
func TestExpEdges(t *testing.T) { both(t, expEdges[[4]uint64], expEdges[[6]uint64]) }

func expEdges[L api.Limbs](t *testing.T) {
	rings(t, func(r *field.Ring[L], m *big.Int) {
		zero, one, two := r.In(small[L](0)), r.In(small[L](1)), r.In(small[L](2))
		for _, e := range [][]uint64{nil, {}, {0}, make([]uint64, 20)} {
			wantNumber(t, "Exp of 0 to the 0", r.Exp(zero, e), one)
			wantNumber(t, "Exp of 2 to the 0", r.Exp(two, e), one)
		}
		wantNumber(t, "Exp of 0", r.Exp(zero, []uint64{0, 1}), zero)
		wantNumber(t, "Exp to the 1", r.Exp(two, []uint64{1, 0, 0}), two)
		want(t, "Exp", r, r.Exp(two, []uint64{3, 0}), big.NewInt(8))
		want(t, "Exp", r, r.Exp(two, []uint64{0, 3}), new(big.Int).Exp(big.NewInt(2), exponent([]uint64{0, 3}), m))
	})
}

// P5.4: exponents of very many words.
func TestExpLong(t *testing.T) { both(t, expLong[[4]uint64], expLong[[6]uint64]) }

func expLong[L api.Limbs](t *testing.T) {
	s := source{at: 9}
	e := make([]uint64, 500)
	for i := range e {
		e[i] = s.limb()
	}
	r := ring(t, top[L]())
	want(t, "Exp", r, r.Exp(r.In(small[L](7)), e), new(big.Int).Exp(big.NewInt(7), exponent(e), number(top[L]())))
}

// P5.4: modulo anything, prime or not.
func TestInv(t *testing.T) { both(t, inv[[4]uint64], inv[[6]uint64]) }

func inv[L api.Limbs](t *testing.T) {
	rings(t, func(r *field.Ring[L], m *big.Int) {
		e := new(big.Int).Sub(m, big.NewInt(2))
		for _, a := range below[L](m, 5) {
			want(t, "Inv", r, r.Inv(in(r, a)), new(big.Int).Exp(a, e, m), a)
		}
		wantNumber(t, "Inv of 0", r.Inv(r.In(small[L](0))), r.In(small[L](0)))
	})
}

// wantRoot holds Root against the chapter's words.
func wantRoot[L api.Limbs](t *testing.T, r *field.Ring[L], m, a *big.Int) {
	t.Helper()
	e := new(big.Int).Add(m, big.NewInt(1))
	should := new(big.Int).Exp(a, e.Rsh(e, 2), m)
	square := new(big.Int).Mul(should, should)
	isRoot := square.Mod(square, m).Cmp(a) == 0
	got, ok := r.Root(in(r, a))
	if ok != isRoot {
		t.Fatalf("modulo %x: Root(%x): %v", m, a, ok)
	}
	if !ok {
		wantNumber(t, "Root", got, small[L](0))
		return
	}
	want(t, "Root", r, got, should, a)
}

// P5.4: modulo anything, numbers that are 1 modulo 4 included.
func TestRoot(t *testing.T) { both(t, root[[4]uint64], root[[6]uint64]) }

func root[L api.Limbs](t *testing.T) {
	rings(t, func(r *field.Ring[L], m *big.Int) {
		for _, a := range below[L](m, 5) {
			wantRoot(t, r, m, a)
			square := new(big.Int).Mul(a, a)
			wantRoot(t, r, m, square.Mod(square, m))
		}
	})
}

// P5.4: all of small rings: there are roots that this power does not find, and numbers that have none.
func TestSmallPowers(t *testing.T) { both(t, smallPowers[[4]uint64], smallPowers[[6]uint64]) }

func smallPowers[L api.Limbs](t *testing.T) {
	for n := int64(3); n < 80; n += 2 {
		m := big.NewInt(n)
		r := ring(t, of[L](m))
		for k := range n {
			a := big.NewInt(k)
			wantRoot(t, r, m, a)
			want(t, "Inv", r, r.Inv(in(r, a)), new(big.Int).Exp(a, big.NewInt(n-2), m), a)
			for e := range uint64(10) {
				want(t, "Exp", r, r.Exp(in(r, a), []uint64{e}), new(big.Int).Exp(a, new(big.Int).SetUint64(e), m), a)
			}
		}
	}
}

// P5.4: modulo the greatest number of the width m + 1 does not fit it. What is 1 modulo 5 and 0 modulo m / 5 is its own square, so each
// power of it but that to the 0 is itself.
func TestRootModuloTheGreatest(t *testing.T) {
	both(t, rootModuloTheGreatest[[4]uint64], rootModuloTheGreatest[[6]uint64])
}

func rootModuloTheGreatest[L api.Limbs](t *testing.T) {
	m := number(top[L]())
	r := ring(t, top[L]())
	a := new(big.Int).Div(m, big.NewInt(5))
	a.Mul(a, new(big.Int).ModInverse(a, big.NewInt(5)))
	x, ok := r.Root(in(r, a))
	if !ok {
		t.Fatal("no root")
	}
	want(t, "Root", r, x, a, a)
	wantRoot(t, r, m, a)
}

// P5.4: of both roots the one that the power comes to, though the other one is as good.
func TestWhichRoot(t *testing.T) {
	r := ring(t, [4]uint64{11})
	for n, should := range map[uint64]uint64{0: 0, 1: 1, 3: 5, 4: 9, 5: 4, 9: 3} {
		x, ok := r.Root(r.In([4]uint64{n}))
		if !ok || r.Out(x) != [4]uint64{should} {
			t.Errorf("Root(%d): %d, %v", n, r.Out(x), ok)
		}
	}
	for _, n := range []uint64{2, 6, 7, 8, 10} {
		if x, ok := r.Root(r.In([4]uint64{n})); ok || x != [4]uint64{} {
			t.Errorf("Root(%d): %d, %v", n, x, ok)
		}
	}
	// Modulo 13 the power is that to the 3, and 4 has the roots 2 and 11; 4 to the 3 is 12, no root.
	r = ring(t, [4]uint64{13})
	if x, ok := r.Root(r.In([4]uint64{4})); ok || x != [4]uint64{} {
		t.Errorf("Root(4): %d, %v", x, ok)
	}
}
