package pairing

import (
	"cairn/api"
	"cairn/field"
)

const (
	bnT  = 4965661367192848881 // the number that bn254 is made of
	blsT = 0xd201000000010000  // the number that BLS12-381 is made of, which is less than 0 there
)

// terms are the numbers that tell a pairing.
type terms[L api.Limbs] struct {
	prime L
	shift uint64    // v v v is shift + u
	turn  [2]L      // w^(p - 1), worked out: shift + u to the power (p - 1) / 6
	loop  [2]uint64 // how many times Q Miller's loop comes to, the least word first
	more  bool      // whether two steps with Frobenius' images of Q follow the loop
	spots [3]int    // at which powers of w a line's parts by y, by x and by neither stand
	last  []stride  // the last power, behind (p^6 - 1)(p^2 + 1)
}

// stride is a step of the last power. Its exponent is a sum of numbers times 1, p, p^2, p^3, and these are sums of few powers of the
// curve's own number, or of multiples of them. Each step makes the next of those powers of the one ahead of it, and counts how often it
// stands in each of the four sums.
type stride struct {
	step   [2]uint64
	counts [4]int
}

// bnTerms answers those of bn254. With t, its number, the strides come to 2 t (6 t^2 + 3 t + 1) times (p^4 - p^2 + 1) / r: as r doesn't
// divide the first factor, that power is 1 just where (p^4 - p^2 + 1) / r comes to 1.
func bnTerms() terms[[4]uint64] {
	return terms[[4]uint64]{
		prime: field.BnP(),
		shift: 9,
		turn: [2][4]uint64{
			{0xd60b35dadcc9e470, 0x5c521e08292f2176, 0xe8b99fdd76e68b60, 0x1284b71c2865a7df},
			{0xca5cf05f80f362ac, 0x747992778eeec7e5, 0xa6327cfe12150b8e, 0x246996f3b4fae7e6},
		},
		// 6 t + 2, of 65 bits.
		loop: [2]uint64{0x9d797039be763ba8, 1},
		more: true,
		// A point x, y of E2 stands for x w^2, y w^3.
		spots: [3]int{0, 1, 3},
		last: []stride{
			{[2]uint64{1}, [4]int{1, 0, 0, -1}},
			{[2]uint64{2 * bnT}, [4]int{3, 2, 3, 2}},
			{[2]uint64{3 * bnT}, [4]int{2, 1, 1, 1}},
			{[2]uint64{2 * bnT}, [4]int{1, 1, 1, 1}},
		},
	}
}

// blsTerms answers those of BLS12-381. The strides come to 3 (p^4 - p^2 + 1) / r. Its number being less than 0, the loop comes to e's
// inverse, which is 1 just where e is.
func blsTerms() terms[[6]uint64] {
	return terms[[6]uint64]{
		prime: field.BlsP(),
		shift: 1,
		turn: [2][6]uint64{
			{0x8d0775ed92235fb8, 0xf67ea53d63e7813d, 0x7b2443d784bab9c4, 0x0fd603fd3cbd5f4f, 0xc231beb4202c0d1f, 0x1904d3bf02bb0667},
			{0x2cf78a126ddc4af3, 0x282d5ac14d6c7ec2, 0xec0c8ec971f63c5f, 0x54a14787b6c7b36f, 0x88e9e902231f9fb8, 0x00fc3e2b36c4e032},
		},
		loop: [2]uint64{blsT},
		// A point x, y of E2 stands for x / w^2, y / w^3; lines are taken times w^3, whose last power is 1.
		spots: [3]int{3, 2, 0},
		last: []stride{
			{[2]uint64{1}, [4]int{3, -1, 0, 1}},
			{[2]uint64{blsT}, [4]int{1, -2, -1, 2}},
			{[2]uint64{blsT}, [4]int{2, 0, -2, 1}},
			{[2]uint64{blsT}, [4]int{0, 2, -1, 0}},
			{[2]uint64{blsT}, [4]int{-2, 1, 0, 0}},
			{[2]uint64{blsT}, [4]int{-1, 0, 0, 0}},
		},
	}
}
