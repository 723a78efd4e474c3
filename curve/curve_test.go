package curve_test

import (
	"math/big"
	"testing"

	"cairn/api"
	"cairn/curve"
)

// P7.1: Bn and Bls answer a Curve each time, alike, whatever was done with another one; and so does a copy of it.
func TestCurvesAreAlike(t *testing.T) {
	a, b := curve.Bn(), curve.Bls()
	if a == nil || b == nil {
		t.Fatal("no Curve")
	}
	p, e := a.Mul1(a.Base1(), api.Word{77})
	a.Mul2(a.Base2(), api.Word{5})
	other := *a
	for _, c := range []*curve.Curve[[4]uint64]{a, curve.Bn(), &other} {
		if q, f := c.Mul1(c.Base1(), api.Word{77}); q != p || e != api.OK || f != api.OK {
			t.Errorf("%v, %d, %v, %d", p, e, q, f)
		}
	}
}

// P7.1: a Curve that neither Bn nor Bls made.
func TestNobodysCurve(t *testing.T) {
	bn1, bn2 := bnLaw()
	bls1, bls2 := blsLaw()
	made := []side{first("", curve.Bn(), bn1), second("", curve.Bn(), bn2), first("", curve.Bls(), bls1), second("", curve.Bls(), bls2)}
	for i, s := range []side{
		first[[4]uint64]("nil", nil, bn1), second[[4]uint64]("nil", nil, bn2),
		first[[6]uint64]("nil", nil, bls1), second[[6]uint64]("nil", nil, bls2),
		first("nobody's", new(curve.Curve[[4]uint64]), bn1), second("nobody's", new(curve.Curve[[4]uint64]), bn2),
		first("nobody's", new(curve.Curve[[6]uint64]), bls1), second("nobody's", new(curve.Curve[[6]uint64]), bls2),
	} {
		if s.base() != none() {
			t.Fatalf("%s: %v", s.name, s.base())
		}
		l := made[i%4].members(0)
		for _, w := range made[i%4].bad() {
			l = append(l, w.p)
		}
		for _, p := range l {
			nobodys(t, s, p)
		}
	}
}

// nobodys holds all calls of a Curve that nobody made against what they should answer.
func nobodys(t *testing.T, s side, p spot) {
	t.Helper()
	if s.good(p) != api.ErrNone || s.group(p) != api.ErrNone {
		t.Fatalf("%s, %v: %d, %d", s.name, p, s.good(p), s.group(p))
	}
	for _, q := range []spot{p, none(), {}} {
		a, e := s.plus(p, q)
		wantError(t, "Add", a, e, none(), api.ErrNone, p, q)
		a, e = s.plus(q, p)
		wantError(t, "Add", a, e, none(), api.ErrNone, q, p)
	}
	a, e := s.minus(p)
	wantError(t, "Neg", a, e, none(), api.ErrNone, p)
	for _, k := range []api.Word{{}, {1}, {2, 3, 4, 5}} {
		a, e = s.times(p, k)
		wantError(t, "Mul", a, e, none(), api.ErrNone, p, k)
	}
}

// P7.2
func TestBases(t *testing.T) {
	coordinate := func(x0, x1 string) [2][6]uint64 { return [2][6]uint64{numeral(hex(x0)), numeral(hex(x1))} }
	should := map[string]spot{
		"bn254 E1": {X: coordinate("1", "0"), Y: coordinate("2", "0")},
		"bn254 E2": {
			X: coordinate("1800deef121f1e76426a00665e5c4479674322d4f75edadd46debd5cd992f6ed", "198e9393920d483a7260bfb731fb5d25f1aa493335a9e71297e485b7aef312c2"),
			Y: coordinate("12c85ea5db8c6deb4aab71808dcb408fe3d1e7690c43d37b4ce6cc0166fa7daa", "090689d0585ff075ec9e99ad690c3395bc4b313370b38ef355acdadcd122975b"),
		},
		"BLS12-381 E1": {
			X: coordinate("17f1d3a73197d7942695638c4fa9ac0fc3688c4f9774b905a14e3a3f171bac586c55e83ff97a1aeffb3af00adb22c6bb", "0"),
			Y: coordinate("08b3f481e3aaa0f1a09e30ed741d8ae4fcf5e095d5d00af600db18cb2c04b3edd03cc744a2888ae40caa232946c5e7e1", "0"),
		},
		"BLS12-381 E2": {
			X: coordinate("024aa2b2f08f0a91260805272dc51051c6e47ad4fa403b02b4510b647ae3d1770bac0326a805bbefd48056c8c121bdb8",
				"13e02b6052719f607dacd3a088274f65596bd0d09920b61ab5da61bbdc7f5049334cf11213945d57e5ac7d055d042b7e"),
			Y: coordinate("0ce5d527727d6e118cc9cdc6da2e351aadfd9baa8cbdd3a76d429a695160d12c923ac9cc3baca289e193548608b82801",
				"0606c4a02ea734cc32acd2b02bc28b99cb3e287e85a763af267492ab572e99ab3f370d275cec1da1aaa9075ff05f79be"),
		},
	}
	sides(t, func(t *testing.T, s side) {
		if s.base() != should[s.name] {
			t.Errorf("%v", s.base())
		}
	})
}

// P7.3: all good points, of the group and not.
func TestGood(t *testing.T) {
	sides(t, func(t *testing.T, s side) {
		for _, p := range s.points(t, 20) {
			if e := s.good(p); e != api.OK || s.modelGood(p) != api.OK {
				t.Errorf("%v: %d", p, e)
			}
		}
	})
}

// P7.3: what is no good point.
func TestGoodRefuses(t *testing.T) {
	sides(t, func(t *testing.T, s side) {
		for _, w := range s.bad() {
			if s.modelGood(w.p) != w.e {
				t.Errorf("%s, %v: the model says %d", w.name, w.p, s.modelGood(w.p))
			}
			if e := s.good(w.p); e != w.e {
				t.Errorf("%s, %v: %d, not %d", w.name, w.p, e, w.e)
			}
		}
	})
}

// P7.3: a number that is p more is another one, though the same modulo p: in each place, and as often as there is room for it.
func TestGoodTakesNoGreaterNumbers(t *testing.T) {
	sides(t, func(t *testing.T, s side) {
		for _, p := range s.edge() {
			n := []*big.Int{number(p.X[0]), number(p.X[1]), number(p.Y[0]), number(p.Y[1])}
			for _, at := range s.numbersOf() {
				for more := new(big.Int).Add(n[at], s.p); more.BitLen() <= int(s.width); more.Add(more, s.p) {
					if e := s.good(put(p, at, more)); e != api.ErrCoord {
						t.Fatalf("%v: %d", put(p, at, more), e)
					}
				}
			}
		}
	})
}

// P7.4
func TestNeg(t *testing.T) {
	sides(t, func(t *testing.T, s side) {
		for _, p := range s.points(t, 10) {
			q, e := s.minus(p)
			want(t, "Neg", q, e, s.modelNeg(p), p)
		}
	})
}

// P7.4: each point to each: itself, its negative and infinity are among them.
func TestAdd(t *testing.T) {
	sides(t, func(t *testing.T, s side) {
		l := s.points(t, 4)
		for _, p := range l {
			for _, q := range l {
				a, e := s.plus(p, q)
				want(t, "Add", a, e, s.modelAdd(p, q), p, q)
			}
		}
	})
}

// P7.4: the edges by themselves.
func TestAddAtEdges(t *testing.T) {
	sides(t, func(t *testing.T, s side) {
		f := source{at: 11}
		for _, p := range append(s.small(t), s.base(), f.point(s), f.point(s)) {
			minus, two := s.modelNeg(p), s.modelMul(p, big.NewInt(2))
			for name, x := range map[string]struct{ p, q, sum spot }{
				"Inf and Inf":   {none(), none(), none()},
				"Inf and P":     {none(), p, p},
				"P and Inf":     {p, none(), p},
				"P and -P":      {p, minus, none()},
				"-P and P":      {minus, p, none()},
				"P and P":       {p, p, two},
				"2P and -P":     {two, minus, p},
				"-P and itself": {minus, minus, s.modelNeg(two)},
			} {
				a, e := s.plus(x.p, x.q)
				want(t, name, a, e, x.sum, p)
			}
		}
	})
}

// P7.4: no point of the four curves has y = 0, for -b is no cube: so none but infinity comes to infinity with itself.
func TestNoYIsNought(t *testing.T) {
	sides(t, func(t *testing.T, s side) {
		// Of the field's q numbers, but 0, the cubes are those whose power (q - 1) / 3 is 1.
		e := new(big.Int).Exp(s.p, big.NewInt(int64(s.parts)), nil)
		e, rest := e.DivMod(plus(e, -1), big.NewInt(3), new(big.Int))
		power, square := pairOf(1, 0), s.neg(s.b)
		for i := range e.BitLen() {
			if e.Bit(i) == 1 {
				power = s.mul(power, square)
			}
			square = s.mul(square, square)
		}
		if rest.Sign() != 0 || s.same(power, pairOf(1, 0)) {
			t.Error("-b is a cube")
		}
		for _, p := range s.points(t, 0) {
			if a, e := s.plus(p, p); e != api.OK || a.Inf != p.Inf {
				t.Errorf("%v and itself: %v, %d", p, a, e)
			}
		}
	})
}

// factors are those of the chapter's edges, and n by chance.
func (s side) factors(n int) []api.Word {
	l := []api.Word{{}, {1}, {2}, {3}, {0, 1}, {0, 0, 1}, {0, 0, 0, 1}, {3: 1 << 63}, {1<<64 - 1}, word(power(256, -1)), word(power(256, -2))}
	for d := int64(-3); d <= 3; d++ {
		l = append(l, word(plus(s.r, d)))
	}
	f := source{at: 13}
	for range n {
		l = append(l, f.word())
	}
	return append(l, word(new(big.Int).Lsh(s.r, 1)), word(s.p), word(s.cofactor))
}

// P7.4: k is not taken modulo r, which only points of the group would leave alone.
func TestMul(t *testing.T) {
	sides(t, func(t *testing.T, s side) {
		f := source{at: 15}
		l := append(append(s.small(t), none(), s.base(), f.point(s), f.point(s)), s.edge()[:2]...)
		for _, p := range l {
			for _, k := range s.factors(3) {
				q, e := s.times(p, k)
				want(t, "Mul", q, e, s.modelMul(p, number([4]uint64(k))), p, k)
			}
		}
	})
}

// P7.4: all small multiples: those of points of a small order come to infinity now and then, and go on from there.
func TestMulSmall(t *testing.T) {
	sides(t, func(t *testing.T, s side) {
		f := source{at: 17}
		for _, p := range append(s.small(t), s.base(), f.point(s)) {
			sum := none()
			for k := range uint64(80) {
				q, e := s.times(p, api.Word{k})
				want(t, "Mul", q, e, sum, p, k)
				sum = s.modelAdd(sum, p)
			}
		}
	})
}

// P7.4, P7.1: Good's errors, with the zero point beside them.
func TestSumsRefuse(t *testing.T) {
	sides(t, func(t *testing.T, s side) {
		for _, w := range s.bad() {
			for _, p := range []spot{s.base(), none()} {
				a, e := s.plus(w.p, p)
				wantError(t, "Add", a, e, spot{}, w.e, w.p, p)
				a, e = s.plus(p, w.p)
				wantError(t, "Add", a, e, spot{}, w.e, p, w.p)
			}
			a, e := s.minus(w.p)
			wantError(t, "Neg", a, e, spot{}, w.e, w.p)
			for _, k := range []api.Word{{}, {1}, {2}, word(s.r)} {
				a, e = s.times(w.p, k)
				wantError(t, "Mul", a, e, spot{}, w.e, w.p, k)
			}
		}
	})
}

// P7.4: an error of the first point comes ahead of one of the second.
func TestFirstPointFirst(t *testing.T) {
	sides(t, func(t *testing.T, s side) {
		for _, v := range s.bad() {
			for _, w := range s.bad() {
				a, e := s.plus(v.p, w.p)
				wantError(t, "Add", a, e, spot{}, v.e, v.p, w.p)
			}
		}
	})
}

// P7.5
func TestGroup(t *testing.T) {
	sides(t, func(t *testing.T, s side) {
		for _, p := range s.members(5) {
			if e := s.group(p); e != api.OK {
				t.Errorf("%v: %d", p, e)
			}
		}
		outside := 0
		for _, p := range s.points(t, 10) {
			should := s.modelGroup(p)
			if e := s.group(p); e != should {
				t.Errorf("%v: %d, not %d", p, e, should)
			}
			if should == api.ErrGroup {
				outside++
			}
		}
		if (outside == 0) != (s.name == "bn254 E1") {
			t.Error("points outside the group:", outside)
		}
		for _, w := range s.bad() {
			if e := s.group(w.p); e != w.e {
				t.Errorf("%s, %v: %d, not %d", w.name, w.p, e, w.e)
			}
		}
	})
}

// P7.5: a point of the group and one of another order make one that is none of the group, and the other order brings it back.
func TestGroupOfSums(t *testing.T) {
	sides(t, func(t *testing.T, s side) {
		for _, p := range s.small(t) {
			if s.group(p) != api.ErrGroup {
				t.Errorf("%v: %d", p, s.group(p))
			}
			q, _ := s.plus(s.base(), p)
			if s.group(q) != api.ErrGroup {
				t.Errorf("%v: %d", q, s.group(q))
			}
			q, _ = s.times(q, word(big.NewInt(3*11*13*23*10069)))
			if s.group(q) != api.OK {
				t.Errorf("%v: %d", q, s.group(q))
			}
		}
	})
}
