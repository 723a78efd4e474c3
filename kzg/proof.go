package kzg

import (
	"cairn/api"
	"cairn/curve"
	"cairn/field"
	"cairn/pairing"
	"cairn/word"
)

// limbs is a coordinate of BLS12-381.
type limbs = [6]uint64

// point is one of BLS12-381's E1.
type point = api.P1[limbs]

// infinity answers the neutral point.
func infinity() point { return point{Inf: true} }

// isScalar tells whether k is below r.
func isScalar(k api.Word) bool { return word.Cmp(k, field.BlsR()) < 0 }

// proves tells of points of the group and numbers below r whether e(c - y Base1, Base2) is e(proof, tau Base2 - z Base2). With
// z Base2 brought over to the other side, as z proof, multiples of points of G1 alone are needed, which are the cheaper ones.
func proves(c, proof point, z, y api.Word) bool {
	g := curve.Bls()
	// All points here belong to their groups: no error comes of any call.
	if proof == infinity() {
		// Then the right side is 1, and c must be y Base1: points that can be compared without a pairing.
		value, _ := g.Mul1(g.Base1(), y)
		return c == value
	}
	left, _ := pairing.BlsSum([]api.Term[limbs]{
		{P: c, K: word.Of(1)},
		{P: g.Base1(), K: word.Sub(field.BlsR(), y)},
		{P: proof, K: z},
	})
	right, _ := g.Neg1(proof)
	is, _ := pairing.Bls([]point{left, right}, []api.P2[limbs]{g.Base2(), Setup()})
	return is
}
