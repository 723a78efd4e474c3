package field

import (
	"math/bits"

	"cairn/api"
)

// Add answers the element that stands for the sum: P5.3
func (r *Ring[L]) Add(a, b L) (sum L) {
	if r.isMade() {
		sum = r.add(a, b)
	}
	return sum
}

// Sub answers the element that stands for the difference: P5.3
func (r *Ring[L]) Sub(a, b L) (difference L) {
	if r.isMade() {
		difference = r.subtract(a, b)
	}
	return difference
}

// Neg answers the element that stands for 0 less a: P5.3
func (r *Ring[L]) Neg(a L) (negative L) {
	if r.isMade() {
		negative = r.subtract(small[L](0), a)
	}
	return negative
}

// add answers a + b modulo m, for both below m. Sum and reduced sum are told in one go over the limbs, as curves add so often that
// handing the sum on would be felt.
func (r *Ring[L]) add(a, b L) L {
	var sum, less L
	var carry, borrow uint64
	for i := range len(a) {
		sum[i], carry = bits.Add64(a[i], b[i], carry)
		less[i], borrow = bits.Sub64(sum[i], r.modulus[i], borrow)
	}
	if carry == 0 && borrow == 1 {
		return sum
	}
	return less
}

// subtract answers a - b modulo m, for both below m.
func (r *Ring[L]) subtract(a, b L) L {
	difference, borrow := minus(a, b)
	if borrow == 1 {
		difference, _ = plus(difference, r.modulus)
	}
	return difference
}

// plus answers a + b, and what of that is above the width.
func plus[L api.Limbs](a, b L) (sum L, carry uint64) {
	for i := range len(a) {
		sum[i], carry = bits.Add64(a[i], b[i], carry)
	}
	return sum, carry
}

// minus answers a - b, and whether (1) that is below 0.
func minus[L api.Limbs](a, b L) (difference L, borrow uint64) {
	for i := range len(a) {
		difference[i], borrow = bits.Sub64(a[i], b[i], borrow)
	}
	return difference, borrow
}
