package pairing_test

import (
	"math/big"
	"testing"

	"cairn/api"
)

// The chapter's first example, over both curves.
func TestExampleNegative(t *testing.T) {
	both(t, exampleNegative[[4]uint64], exampleNegative[[6]uint64])
}

func exampleNegative[L api.Limbs](t *testing.T, s side[L]) {
	p, q := s.c.Base1(), s.c.Base2()
	s.want(t, "a point and its negative", true, list1(p, s.neg1(p)), list2(q, q))
	s.want(t, "one pair", false, list1(p), list2(q))
	s.want(t, "no pairs", true, nil, nil)
}

// The chapter's second example, over both curves.
func TestExampleMultiples(t *testing.T) {
	both(t, exampleMultiples[[4]uint64], exampleMultiples[[6]uint64])
}

func exampleMultiples[L api.Limbs](t *testing.T, s side[L]) {
	n := func(k int64) *big.Int { return big.NewInt(k) }
	p := list1(s.first(n(6)), s.neg1(s.first(n(2))))
	s.want(t, "6 less 2 times 3", true, p, list2(s.c.Base2(), s.second(n(3))))
	s.want(t, "6 less 2 times 4", false, p, list2(s.c.Base2(), s.second(n(4))))
}
