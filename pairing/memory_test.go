package pairing_test

import (
	"slices"
	"testing"

	"cairn/api"
)

// P2, P3: lists are left as they are, what lies behind their length makes no difference, and the same is answered each time.
func TestListsAreLeft(t *testing.T) { both(t, listsAreLeft[[4]uint64], listsAreLeft[[6]uint64]) }

func listsAreLeft[L api.Limbs](t *testing.T, s side[L]) {
	p, q, other := s.sample()
	// Behind the lists stand a point that is none, and a pair that would change the product.
	left := append(slices.Clone(p), s.offCurve()[0].p, s.c.Base1())
	for _, x := range []struct {
		q  []api.P2[L]
		is bool
	}{{q, true}, {other, false}} {
		right := append(slices.Clone(x.q), s.bad2()[0].q, s.c.Base2())
		wasLeft, wasRight := slices.Clone(left), slices.Clone(right)
		for range 2 {
			s.want(t, "cut off", x.is, left[:4], right[:4])
			s.wantError(t, "whole", s.offCurve()[0].e, left, right)
			s.want(t, "behind infinity", x.is, append(list1(none1[L]()), left[:4]...), append(list2(none2[L]()), right[:4]...))
		}
		if !slices.Equal(left, wasLeft) || !slices.Equal(right, wasRight) {
			t.Error("a list was written into")
		}
	}
}

// P2, P3: likewise terms.
func TestTermsAreLeft(t *testing.T) { both(t, termsAreLeft[[4]uint64], termsAreLeft[[6]uint64]) }

func termsAreLeft[L api.Limbs](t *testing.T, s side[L]) {
	l := []api.Term[L]{{P: s.c.Base1(), K: api.Word{3}}, {P: s.points1()[3], K: api.Word{1, 2, 3, 4}}, {P: s.offCurve()[0].p}}
	was := slices.Clone(l)
	for range 2 {
		s.wantSum(t, "cut off", s.modelSum(l[:2]), l[:2]...)
		s.wantSumError(t, "whole", s.offCurve()[0].e, l...)
	}
	if !slices.Equal(l, was) {
		t.Error("a list was written into")
	}
}
