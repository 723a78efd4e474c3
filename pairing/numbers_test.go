package pairing_test

import (
	"math/big"
	"testing"

	"cairn/api"
)

// pairs are points a(i) Base1, b(i) Base2, and whether the sum of a(i) b(i) is 0 modulo r.
func (s side[L]) pairs(a, b []*big.Int) (p []api.P1[L], q []api.P2[L], isOne bool) {
	sum := new(big.Int)
	for i := range a {
		// The multiples are those of whole words, not modulo r.
		p = append(p, point(s.c.Mul1(s.c.Base1(), word(a[i]))))
		q = append(q, point(s.c.Mul2(s.c.Base2(), word(b[i]))))
		sum.Add(sum, times(a[i], b[i]))
	}
	return p, q, sum.Mod(sum, s.r).Sign() == 0
}

// P8.1, P8.3: one pair of multiples at all edges.
func TestOnePair(t *testing.T) { both(t, onePair[[4]uint64], onePair[[6]uint64]) }

func onePair[L api.Limbs](t *testing.T, s side[L]) {
	trues := 0
	for _, a := range s.edges() {
		for _, b := range s.edges() {
			p, q, should := s.pairs([]*big.Int{a}, []*big.Int{b})
			s.want(t, a.String()+", "+b.String(), should, p, q)
			if should {
				trues++
			}
		}
	}
	// 0 and r against all, all against 0 and r.
	if trues != 20 {
		t.Error(trues)
	}
}

// P8.1, P8.3: a(0) b(0) against a(1) b(1) at the edges, alike and not.
func TestTwoPairs(t *testing.T) { both(t, twoPairs[[4]uint64], twoPairs[[6]uint64]) }

func twoPairs[L api.Limbs](t *testing.T, s side[L]) {
	for _, a := range s.edges() {
		for _, b := range s.edges() {
			rest := times(a, b)
			rest.Sub(s.r, rest.Mod(rest, s.r))
			p, q, should := s.pairs([]*big.Int{a, big.NewInt(1)}, []*big.Int{b, rest})
			s.want(t, "as much less", should, p, q)
			if !should {
				t.Fatal(a, b)
			}
			p, q, should = s.pairs([]*big.Int{a, big.NewInt(2)}, []*big.Int{b, plus(rest, 1)})
			s.want(t, "not as much", should, p, q)
		}
	}
}

// P8.1, P8.3: pairs by chance; the last one brings the sum to 0, or misses it by one.
func TestByNumbers(t *testing.T) { both(t, byNumbers[[4]uint64], byNumbers[[6]uint64]) }

func byNumbers[L api.Limbs](t *testing.T, s side[L]) {
	f := source{at: 3}
	for n := range 12 {
		var a, b []*big.Int
		sum := new(big.Int)
		for range n {
			a, b = append(a, f.below(s.r)), append(b, f.below(s.r))
			sum.Add(sum, times(a[len(a)-1], b[len(b)-1]))
		}
		last := f.below(s.r)
		rest := times(sum, new(big.Int).ModInverse(last, s.r))
		rest.Sub(s.r, rest.Mod(rest, s.r))
		for _, d := range []int64{0, 1, -1} {
			p, q, should := s.pairs(append(a, last), append(b, plus(rest, d)))
			s.want(t, "by chance", should, p, q)
			if should != (d == 0) {
				t.Fatal(n, d)
			}
		}
	}
}

// P8.3: sums that are 0 as whole numbers modulo 2^256, but not modulo r, and the other way round.
func TestModuloR(t *testing.T) { both(t, moduloR[[4]uint64], moduloR[[6]uint64]) }

func moduloR[L api.Limbs](t *testing.T, s side[L]) {
	one := big.NewInt(1)
	p, q, _ := s.pairs([]*big.Int{power(256, -1), one}, []*big.Int{one, one})
	s.want(t, "2^256", false, p, q)
	p, q, _ = s.pairs([]*big.Int{plus(s.r, -1), one}, []*big.Int{one, one})
	s.want(t, "r", true, p, q)
	p, q, _ = s.pairs([]*big.Int{power(128, 0)}, []*big.Int{power(128, 0)})
	s.want(t, "2^128 times itself", false, p, q)
	for _, d := range []int64{-1, 0, 1} {
		// The prime of the coordinates is no multiple of r: it is not that one modulo which numbers go.
		n := new(big.Int).Mod(plus(s.p, d), s.r)
		p, q, should := s.pairs([]*big.Int{n}, []*big.Int{one})
		s.want(t, "p", should, p, q)
		if should {
			t.Fatal(d)
		}
	}
}

// P8.3: small numbers, whole: all a b + c d from -2 to 2.
func TestSmallNumbers(t *testing.T) { both(t, smallNumbers[[4]uint64], smallNumbers[[6]uint64]) }

func smallNumbers[L api.Limbs](t *testing.T, s side[L]) {
	at := func(n int64) *big.Int { return new(big.Int).Mod(big.NewInt(n), s.r) }
	for a := range int64(3) {
		for b := int64(-2); b <= 2; b++ {
			for d := int64(-2); d <= 2; d++ {
				p, q, should := s.pairs([]*big.Int{at(a), at(2)}, []*big.Int{at(b), at(d)})
				s.want(t, "small", should, p, q)
				if should != (a*b+2*d == 0) {
					t.Fatal(a, b, d)
				}
			}
		}
	}
}
