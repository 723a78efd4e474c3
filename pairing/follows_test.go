package pairing_test

import (
	"math/big"
	"slices"
	"testing"

	"cairn/api"
)

// points1 and points2 are points of the groups: infinity, a base, multiples, and such of which nobody knows which multiples they are.
func (s side[L]) points1() []api.P1[L] {
	f := source{at: 7}
	return list1(none1[L](), s.c.Base1(), s.first(f.number()), s.member1(s.any1(5, 1)[0]))
}

func (s side[L]) points2() []api.P2[L] {
	f := source{at: 8}
	return list2(none2[L](), s.c.Base2(), s.second(f.number()), s.member2(s.any2(5, 1)[0]))
}

// P8.4: sums of points of G1.
func TestBilinear1(t *testing.T) { both(t, bilinear1[[4]uint64], bilinear1[[6]uint64]) }

func bilinear1[L api.Limbs](t *testing.T, s side[L]) {
	q := s.points2()[3]
	l := s.points1()
	l = append(l, s.neg1(l[3]))
	for _, a := range l {
		for _, b := range l {
			sum := point(s.c.Add1(a, b))
			s.want(t, "a sum", true, list1(sum, s.neg1(a), s.neg1(b)), list2(q, q, q))
			s.want(t, "a sum and one of both", b.Inf, list1(sum, s.neg1(a)), list2(q, q))
		}
	}
}

// P8.4: sums of points of G2.
func TestBilinear2(t *testing.T) { both(t, bilinear2[[4]uint64], bilinear2[[6]uint64]) }

func bilinear2[L api.Limbs](t *testing.T, s side[L]) {
	p := s.points1()[3]
	l := s.points2()
	l = append(l, s.neg2(l[3]))
	for _, a := range l {
		for _, b := range l {
			sum := point(s.c.Add2(a, b))
			s.want(t, "a sum", true, list1(p, p, p), list2(sum, s.neg2(a), s.neg2(b)))
			s.want(t, "a sum and one of both", b.Inf, list1(p, p), list2(sum, s.neg2(a)))
		}
	}
}

// P8.4: multiples in one place and in the other.
func TestMultiples(t *testing.T) { both(t, multiples[[4]uint64], multiples[[6]uint64]) }

func multiples[L api.Limbs](t *testing.T, s side[L]) {
	f := source{at: 9}
	for _, k := range append(s.edges(), big.NewInt(2), f.below(s.r), f.below(power(256, 0))) {
		for i, p := range s.points1() {
			q := s.points2()[3-i]
			left, right := point(s.c.Mul1(p, word(k))), point(s.c.Mul2(q, word(k)))
			s.want(t, "k P against k Q", true, list1(left, s.neg1(p)), list2(q, right))
			s.want(t, "with the negative in the other place", true, list1(left, p), list2(q, s.neg2(right)))
		}
		p, q := s.points1()[3], s.points2()[3]
		more := point(s.c.Mul2(q, word(plus(new(big.Int).Mod(k, s.r), 1))))
		s.want(t, "k P against (k + 1) Q", false, list1(point(s.c.Mul1(p, word(k))), s.neg1(p)), list2(q, more))
	}
}

// P8.5
func TestNotIdle(t *testing.T) { both(t, notIdle[[4]uint64], notIdle[[6]uint64]) }

func notIdle[L api.Limbs](t *testing.T, s side[L]) {
	for _, p := range s.points1() {
		for _, q := range s.points2() {
			is := p.Inf || q.Inf
			s.want(t, "P, Q", is, list1(p), list2(q))
			s.want(t, "-P, Q", is, list1(s.neg1(p)), list2(q))
			s.want(t, "P, -Q", is, list1(p), list2(s.neg2(q)))
			s.want(t, "P, Q and -P, Q", true, list1(p, s.neg1(p)), list2(q, q))
			s.want(t, "P, Q and P, -Q", true, list1(p, p), list2(q, s.neg2(q)))
			s.want(t, "P, Q and -P, -Q", is, list1(p, s.neg1(p)), list2(q, s.neg2(q)))
		}
	}
}

// sample are four pairs whose product is 1, and four whose product isn't.
func (s side[L]) sample() (p []api.P1[L], q, r []api.P2[L]) {
	f := source{at: 12}
	a, b, c := f.below(s.r), f.below(s.r), f.below(s.r)
	p = list1(s.first(a), s.first(b), s.first(c), s.neg1(s.c.Base1()))
	sum := new(big.Int).Add(times(a, c), new(big.Int).Add(times(b, a), times(c, b)))
	q = list2(s.second(c), s.second(a), s.second(b), s.second(sum))
	return p, q, list2(q[0], q[1], q[3], q[2])
}

// P8.6: all orders of four pairs.
func TestNoOrder(t *testing.T) { both(t, noOrder[[4]uint64], noOrder[[6]uint64]) }

func noOrder[L api.Limbs](t *testing.T, s side[L]) {
	p, q, r := s.sample()
	s.want(t, "the sample", true, p, q)
	s.want(t, "the other sample", false, p, r)
	for i := range 4 {
		for j := range 4 {
			for k := range 4 {
				l := 6 - i - j - k
				if i == j || i == k || j == k {
					continue
				}
				order := list1(p[i], p[j], p[k], p[l])
				s.want(t, "another order", true, order, list2(q[i], q[j], q[k], q[l]))
				s.want(t, "another order", false, order, list2(r[i], r[j], r[k], r[l]))
			}
		}
	}
}

// P8.6: pairs with a point at infinity, at every place.
func TestInfinityPutIn(t *testing.T) { both(t, infinityPutIn[[4]uint64], infinityPutIn[[6]uint64]) }

func infinityPutIn[L api.Limbs](t *testing.T, s side[L]) {
	p, q, r := s.sample()
	for at := range 5 {
		for _, more := range []struct {
			p api.P1[L]
			q api.P2[L]
		}{{none1[L](), q[0]}, {p[0], none2[L]()}, {none1[L](), none2[L]()}} {
			left := slices.Insert(slices.Clone(p), at, more.p, more.p)
			s.want(t, "put in", true, left, slices.Insert(slices.Clone(q), at, more.q, more.q))
			s.want(t, "put in", false, left, slices.Insert(slices.Clone(r), at, more.q, more.q))
		}
	}
}

// P8.5, P8.6: nothing but pairs with a point at infinity.
func TestInfinityAlone(t *testing.T) { both(t, infinityAlone[[4]uint64], infinityAlone[[6]uint64]) }

func infinityAlone[L api.Limbs](t *testing.T, s side[L]) {
	p, q, n, m := s.c.Base1(), s.c.Base2(), none1[L](), none2[L]()
	s.want(t, "in the first place", true, list1(n, n), list2(q, q))
	s.want(t, "in the second place", true, list1(p, p), list2(m, m))
	s.want(t, "in both", true, list1(n, n), list2(m, m))
	s.want(t, "here and there", true, list1(n, p, n), list2(q, m, m))
	s.want(t, "in all but one", false, list1(n, p, p), list2(q, m, q))
}

// P8.3: the same pair several times.
func TestSamePair(t *testing.T) { both(t, samePair[[4]uint64], samePair[[6]uint64]) }

func samePair[L api.Limbs](t *testing.T, s side[L]) {
	p, q := s.points1()[3], s.points2()[3]
	for n := 1; n < 8; n++ {
		left, right := slices.Repeat(list1(p), n), slices.Repeat(list2(q), n)
		s.want(t, "alone", false, left, right)
		for _, k := range []int{n - 1, n, n + 1} {
			rest := s.neg1(point(s.c.Mul1(p, api.Word{uint64(k)})))
			s.want(t, "and n times its negative", k == n, append(list1(rest), left...), append(list2(q), right...))
		}
	}
}
