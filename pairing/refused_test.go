package pairing_test

import (
	"testing"

	"cairn/api"
)

// P8.1: no pairs, in a nil slice or an empty one.
func TestNoPairs(t *testing.T) { both(t, noPairs[[4]uint64], noPairs[[6]uint64]) }

func noPairs[L api.Limbs](t *testing.T, s side[L]) {
	for _, p := range [][]api.P1[L]{nil, {}, make([]api.P1[L], 0, 4)} {
		for _, q := range [][]api.P2[L]{nil, {}, make([]api.P2[L], 0, 4)} {
			s.want(t, "no pairs", true, p, q)
			s.wantError(t, "none of one kind", api.ErrRange, p, append(q, s.c.Base2()))
			s.wantError(t, "none of one kind", api.ErrRange, append(p, s.c.Base1()), q)
		}
	}
}

// P8.1: not as many of both, ahead of all errors of points.
func TestNotAsMany(t *testing.T) { both(t, notAsMany[[4]uint64], notAsMany[[6]uint64]) }

func notAsMany[L api.Limbs](t *testing.T, s side[L]) {
	good1, good2 := s.c.Base1(), s.c.Base2()
	for _, first := range []api.P1[L]{good1, none1[L](), s.offCurve()[0].p, {}} {
		for _, second := range append(list2(good2, none2[L]()), s.bad2()[0].q, s.any2(1, 1)[0]) {
			for m := range 4 {
				for n := range 4 {
					p, q := make([]api.P1[L], m), make([]api.P2[L], n)
					for i := range p {
						p[i] = first
					}
					for i := range q {
						q[i] = second
					}
					if m != n {
						s.wantError(t, "not as many", api.ErrRange, p, q)
					}
				}
			}
		}
	}
}

// P8.1, P8.7: a bad point at every place, beside members and beside infinity.
func TestRefused(t *testing.T) { both(t, refused[[4]uint64], refused[[6]uint64]) }

func refused[L api.Limbs](t *testing.T, s side[L]) {
	base1, base2 := s.c.Base1(), s.c.Base2()
	for at := range 3 {
		for _, x := range s.bad1() {
			p, q := list1(base1, none1[L](), base1), list2(base2, base2, none2[L]())
			p[at] = x.p
			s.wantError(t, x.name, x.e, p, q)
			p, q = list1(none1[L](), none1[L](), none1[L]()), list2(none2[L](), none2[L](), none2[L]())
			p[at] = x.p
			s.wantError(t, x.name, x.e, p, q)
		}
		for _, x := range s.bad2() {
			p, q := list1(base1, none1[L](), base1), list2(base2, base2, none2[L]())
			q[at] = x.q
			s.wantError(t, x.name, x.e, p, q)
			p, q = list1(none1[L](), none1[L](), none1[L]()), list2(none2[L](), none2[L](), none2[L]())
			q[at] = x.q
			s.wantError(t, x.name, x.e, p, q)
		}
	}
	for _, x := range s.bad1() {
		s.wantError(t, x.name, x.e, list1(x.p), list2(base2))
	}
	for _, x := range s.bad2() {
		s.wantError(t, x.name, x.e, list1(base1), list2(x.q))
	}
}

// kinds1 and kinds2 are one bad point of each error.
func (s side[L]) kinds1() (l []bad1[L]) {
	for _, x := range s.bad1() {
		if len(l) == 0 || l[len(l)-1].e != x.e {
			l = append(l, x)
		}
	}
	return l
}

func (s side[L]) kinds2() (l []bad2[L]) {
	seen := map[api.Errno]bool{}
	for _, x := range s.bad2() {
		if !seen[x.e] {
			l = append(l, x)
		}
		seen[x.e] = true
	}
	return l
}

// P8.1: of several errors the one of the earlier pair, and within a pair that of P.
func TestFirstError(t *testing.T) { both(t, firstError[[4]uint64], firstError[[6]uint64]) }

func firstError[L api.Limbs](t *testing.T, s side[L]) {
	base1, base2 := s.c.Base1(), s.c.Base2()
	for _, x := range s.kinds1() {
		for _, y := range s.kinds2() {
			s.wantError(t, "of one pair", x.e, list1(base1, x.p), list2(base2, y.q))
			s.wantError(t, "P of the earlier one", x.e, list1(x.p, base1), list2(base2, y.q))
			s.wantError(t, "Q of the earlier one", y.e, list1(base1, x.p), list2(y.q, base2))
			s.wantError(t, "Q of the earlier one, P at infinity", y.e, list1(none1[L](), x.p), list2(y.q, none2[L]()))
		}
		for _, y := range s.kinds1() {
			s.wantError(t, "two of P", x.e, list1(base1, x.p, y.p), list2(base2, base2, base2))
		}
	}
	for _, x := range s.kinds2() {
		for _, y := range s.kinds2() {
			s.wantError(t, "two of Q", x.e, list1(base1, base1, base1), list2(base2, x.q, y.q))
		}
	}
}

// The bad points are of all kinds that there are.
func TestKindsOfErrors(t *testing.T) {
	bn, bls := bnSide(t), blsSide(t)
	if m, n := len(bn.kinds1()), len(bn.kinds2()); m != 2 || n != 3 {
		t.Error(m, n)
	}
	if m, n := len(bls.kinds1()), len(bls.kinds2()); m != 3 || n != 3 {
		t.Error(m, n)
	}
}

// P8.7: over bn254 each good point of E1 belongs to the group, and is taken.
func TestAllOfBn(t *testing.T) {
	s := bnSide(t)
	for _, p := range s.any1(1, 10) {
		s.want(t, "any point", false, list1(p), list2(s.c.Base2()))
		s.want(t, "any point and its negative", true, list1(p, s.neg1(p)), list2(s.c.Base2(), s.c.Base2()))
	}
}

// P8.1: points by chance, good and bad: the first error of package curve is the answer's.
func TestErrorsByChance(t *testing.T) { both(t, errorsByChance[[4]uint64], errorsByChance[[6]uint64]) }

func errorsByChance[L api.Limbs](t *testing.T, s side[L]) {
	f := source{at: 21}
	bad1, bad2 := s.bad1(), s.bad2()
	for range 60 {
		var p []api.P1[L]
		var q []api.P2[L]
		should := api.OK
		for range 1 + f.next()%4 {
			x, y := s.c.Base1(), s.c.Base2()
			switch f.next() % 6 {
			case 0:
				x = bad1[f.next()%uint64(len(bad1))].p
			case 1:
				y = bad2[f.next()%uint64(len(bad2))].q
			case 2:
				x, y = api.P1[L]{X: of[L](f.number()), Y: of[L](f.number())}, none2[L]()
			}
			for _, e := range []api.Errno{s.c.Group1(x), s.c.Group2(y)} {
				if should == api.OK {
					should = e
				}
			}
			p, q = append(p, x), append(q, y)
		}
		if is, e := s.is(p, q); is || e != should {
			t.Fatalf("%v, %v: %v, %d, not %d", p, q, is, e, should)
		}
	}
}
