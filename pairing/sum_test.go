package pairing_test

import (
	"math/big"
	"slices"
	"testing"

	"cairn/api"
)

// wantSum holds the call's answer against a point.
func (s side[L]) wantSum(t *testing.T, name string, should api.P1[L], l ...api.Term[L]) {
	t.Helper()
	if got, e := s.sum(l); got != should || e != api.OK {
		t.Fatalf("%s: %v, %d, not %v", name, got, e, should)
	}
}

// wantSumError holds the call's answer against an error, with the zero point beside it.
func (s side[L]) wantSumError(t *testing.T, name string, should api.Errno, l ...api.Term[L]) {
	t.Helper()
	if got, e := s.sum(l); got != (api.P1[L]{}) || e != should {
		t.Fatalf("%s: %v, %d, not %d", name, got, e, should)
	}
}

// modelAdd adds two good points of E1 by chapter 7's words, in whole numbers.
func (s side[L]) modelAdd(p, q api.P1[L]) api.P1[L] {
	if p.Inf {
		return q
	}
	if q.Inf {
		return p
	}
	x1, y1, x2, y2 := number(p.X), number(p.Y), number(q.X), number(q.Y)
	up, across := new(big.Int).Sub(y2, y1), new(big.Int).Sub(x2, x1)
	if p == q {
		up, across = times(big.NewInt(3), times(x1, x1)), new(big.Int).Lsh(y1, 1)
	} else if across.Sign() == 0 {
		return none1[L]()
	}
	slope := times(up, new(big.Int).ModInverse(across.Mod(across, s.p), s.p))
	x := times(slope, slope)
	x.Sub(x, x1).Sub(x, x2).Mod(x, s.p)
	y := times(slope, new(big.Int).Sub(x1, x))
	y.Sub(y, y1).Mod(y, s.p)
	return api.P1[L]{X: of[L](x), Y: of[L](y)}
}

// modelSum is P8.2, of good points.
func (s side[L]) modelSum(l []api.Term[L]) api.P1[L] {
	sum := none1[L]()
	for _, term := range l {
		product := none1[L]()
		k := number([4]uint64(term.K))
		for i := k.BitLen() - 1; i >= 0; i-- {
			product = s.modelAdd(product, product)
			if k.Bit(i) == 1 {
				product = s.modelAdd(product, term.P)
			}
		}
		sum = s.modelAdd(sum, product)
	}
	return sum
}

// P8.2: of no terms, in a nil slice or an empty one.
func TestNoTerms(t *testing.T) { both(t, noTerms[[4]uint64], noTerms[[6]uint64]) }

func noTerms[L api.Limbs](t *testing.T, s side[L]) {
	for _, l := range [][]api.Term[L]{nil, {}, make([]api.Term[L], 0, 3)} {
		s.wantSum(t, "no terms", none1[L](), l...)
	}
}

// P8.2: one term at all edges of K, of points of the group and outside it.
func TestOneTerm(t *testing.T) { both(t, oneTerm[[4]uint64], oneTerm[[6]uint64]) }

func oneTerm[L api.Limbs](t *testing.T, s side[L]) {
	points := append(s.points1(), s.any1(1, 3)...)
	for _, x := range s.outsiders1() {
		points = append(points, x.p)
	}
	for _, p := range points {
		for _, k := range append(s.edges(), big.NewInt(2), big.NewInt(3)) {
			term := api.Term[L]{P: p, K: word(k)}
			s.wantSum(t, "one term", s.modelSum([]api.Term[L]{term}), term)
		}
		s.wantSum(t, "once", p, api.Term[L]{P: p, K: api.Word{1}})
		s.wantSum(t, "no time", none1[L](), api.Term[L]{P: p})
	}
}

// P8.2: several terms by chance, of points of the group and outside it.
func TestManyTerms(t *testing.T) { both(t, manyTerms[[4]uint64], manyTerms[[6]uint64]) }

func manyTerms[L api.Limbs](t *testing.T, s side[L]) {
	f := source{at: 31}
	points := append(s.points1(), s.any1(1, 4)...)
	for n := range 10 {
		var l []api.Term[L]
		for range n {
			l = append(l, api.Term[L]{P: points[f.next()%uint64(len(points))], K: word(f.number())})
		}
		should := s.modelSum(l)
		s.wantSum(t, "by chance", should, l...)
		slices.Reverse(l)
		s.wantSum(t, "the other way round", should, l...)
	}
}

// P8.2: multiples of the base by numbers.
func TestSumByNumbers(t *testing.T) { both(t, sumByNumbers[[4]uint64], sumByNumbers[[6]uint64]) }

func sumByNumbers[L api.Limbs](t *testing.T, s side[L]) {
	f := source{at: 32}
	for n := range 6 {
		var l []api.Term[L]
		sum := new(big.Int)
		for range n {
			a, k := f.below(s.r), f.below(power(256, 0))
			l = append(l, api.Term[L]{P: s.first(a), K: word(k)})
			sum.Add(sum, times(a, k))
		}
		s.wantSum(t, "by numbers", s.first(sum), l...)
		// One more term brings it to infinity.
		l = append(l, api.Term[L]{P: s.neg1(s.c.Base1()), K: word(sum.Mod(sum, s.r))})
		s.wantSum(t, "to infinity", none1[L](), l...)
	}
}

// P8.2: terms that meet themselves, their negatives, infinity.
func TestTermsThatMeet(t *testing.T) { both(t, termsThatMeet[[4]uint64], termsThatMeet[[6]uint64]) }

func termsThatMeet[L api.Limbs](t *testing.T, s side[L]) {
	term := func(p api.P1[L], k *big.Int) api.Term[L] { return api.Term[L]{P: p, K: word(k)} }
	n := func(k int64) *big.Int { return big.NewInt(k) }
	p, q := s.points1()[3], s.c.Base1()
	twice := point(s.c.Add1(p, p))
	s.wantSum(t, "a point and itself", twice, term(p, n(1)), term(p, n(1)))
	s.wantSum(t, "twice a point", twice, term(p, n(2)))
	s.wantSum(t, "three times and less once", twice, term(p, n(3)), term(s.neg1(p), n(1)))
	s.wantSum(t, "a point and its negative", none1[L](), term(p, n(1)), term(s.neg1(p), n(1)))
	s.wantSum(t, "7 times and r - 7 times", none1[L](), term(p, n(7)), term(p, plus(s.r, -7)))
	s.wantSum(t, "infinity on the way", q, term(p, n(5)), term(p, plus(s.r, -5)), term(q, n(1)))
	s.wantSum(t, "terms at infinity", p, term(none1[L](), power(256, -1)), term(p, n(1)), term(none1[L](), n(0)))
	s.wantSum(t, "nothing but infinity", none1[L](), term(none1[L](), n(3)), term(none1[L](), s.r))
	s.wantSum(t, "no time each", none1[L](), term(p, n(0)), term(q, n(0)))
	s.wantSum(t, "r times each", none1[L](), term(p, s.r), term(q, s.r))
	outside := s.any1(1, 1)[0]
	s.wantSum(t, "outside the group", none1[L](), term(outside, s.r), term(s.neg1(outside), s.r))
}

// P8.2: points outside the group are taken, and r times them is not at infinity.
func TestSumOutside(t *testing.T) {
	s := blsSide(t)
	for _, x := range s.outsiders1() {
		term := api.Term[[6]uint64]{P: x.p, K: word(s.r)}
		if should := s.modelSum([]api.Term[[6]uint64]{term}); should.Inf {
			t.Fatal(x.name)
		} else {
			s.wantSum(t, x.name, should, term)
		}
	}
}

// P8.2, P4: a bad point at every place, whatever its K; of several the first one's error.
func TestSumRefused(t *testing.T) { both(t, sumRefused[[4]uint64], sumRefused[[6]uint64]) }

func sumRefused[L api.Limbs](t *testing.T, s side[L]) {
	good := api.Term[L]{P: s.c.Base1(), K: api.Word{2}}
	for _, x := range s.offCurve() {
		for _, k := range s.edges() {
			bad := api.Term[L]{P: x.p, K: word(k)}
			s.wantSumError(t, x.name, x.e, bad)
			for at := range 3 {
				l := []api.Term[L]{good, good, good}
				l[at] = bad
				s.wantSumError(t, x.name, x.e, l...)
			}
		}
		for _, y := range s.offCurve() {
			s.wantSumError(t, x.name+", "+y.name, x.e, good, api.Term[L]{P: x.p}, api.Term[L]{P: y.p, K: api.Word{1}})
		}
	}
}
