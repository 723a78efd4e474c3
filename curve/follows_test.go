package curve_test

import (
	"math/big"
	"testing"

	"cairn/api"
)

// sum, negative and product are those calls of what are good points: what they come to is good, too (P7.8).
func (s side) sum(t *testing.T, p, q spot) spot {
	t.Helper()
	a, e := s.plus(p, q)
	return s.answered(t, a, e)
}

func (s side) negative(t *testing.T, p spot) spot {
	t.Helper()
	a, e := s.minus(p)
	return s.answered(t, a, e)
}

func (s side) product(t *testing.T, p spot, k api.Word) spot {
	t.Helper()
	a, e := s.times(p, k)
	return s.answered(t, a, e)
}

func (s side) answered(t *testing.T, p spot, e api.Errno) spot {
	t.Helper()
	if e != api.OK || s.good(p) != api.OK {
		t.Fatal(p, e)
	}
	return p
}

func wantSame(t *testing.T, name string, p, q spot) {
	t.Helper()
	if p != q {
		t.Fatalf("%s: %v, %v", name, p, q)
	}
}

// P7.8: sums.
func TestSums(t *testing.T) {
	sides(t, func(t *testing.T, s side) {
		l := s.points(t, 3)
		f := source{at: 31}
		for _, p := range l {
			wantSame(t, "P and its negative", s.sum(t, p, s.negative(t, p)), none())
			wantSame(t, "the negative's negative", s.negative(t, s.negative(t, p)), p)
			wantSame(t, "P and infinity", s.sum(t, p, none()), p)
			for _, q := range l {
				r := l[f.next()%uint64(len(l))]
				sum := s.sum(t, p, q)
				wantSame(t, "the other way round", sum, s.sum(t, q, p))
				wantSame(t, "q taken off again", s.sum(t, sum, s.negative(t, q)), p)
				wantSame(t, "grouped", s.sum(t, sum, r), s.sum(t, p, s.sum(t, q, r)))
			}
		}
	})
}

// P7.8: multiples of sums, up to sums of 2^256 - 1; k is far above r there.
func TestMultiplesOfSums(t *testing.T) {
	sides(t, func(t *testing.T, s side) {
		f := source{at: 33}
		l, k := s.points(t, 3), s.factors(5)
		top, tried := word(power(256, -1)), 0
		for range 60 {
			p, i, j := l[f.next()%uint64(len(l))], k[f.next()%uint64(len(k))], k[f.next()%uint64(len(k))]
			sum := new(big.Int).Add(number([4]uint64(i)), number([4]uint64(j)))
			if sum.BitLen() <= 256 {
				wantSame(t, "a sum's multiple", s.product(t, p, word(sum)), s.sum(t, s.product(t, p, i), s.product(t, p, j)))
				tried++
			}
			rest := word(new(big.Int).Sub(power(256, -1), number([4]uint64(i))))
			wantSame(t, "2^256 - 1 times", s.product(t, p, top), s.sum(t, s.product(t, p, i), s.product(t, p, rest)))
		}
		if tried < 20 {
			t.Error(tried)
		}
	})
}

// P7.9
func TestOrder(t *testing.T) {
	sides(t, func(t *testing.T, s side) {
		g := s.base()
		if s.group(g) != api.OK {
			t.Error("the base is none of the group")
		}
		wantSame(t, "r times the base", s.product(t, g, word(s.r)), none())
		wantSame(t, "r - 1 times the base", s.product(t, g, word(plus(s.r, -1))), s.negative(t, g))
		wantSame(t, "r + 1 times the base", s.product(t, g, word(plus(s.r, 1))), g)
		wantSame(t, "2^256 - 1 times the base", s.product(t, g, word(power(256, -1))), s.product(t, g, word(new(big.Int).Mod(power(256, -1), s.r))))
	})
}

// P7.9: bn254's E1 is its group.
func TestAllOfBn1(t *testing.T) {
	sides(t, func(t *testing.T, s side) {
		if s.name != "bn254 E1" {
			return
		}
		for _, p := range s.points(t, 200) {
			if e := s.group(p); e != api.OK {
				t.Errorf("%v: %d", p, e)
			}
		}
	})
}
