package field

import "math/bits"

// Mul answers the element that stands for the product: P5.3
func (r *Ring[L]) Mul(a, b L) (product L) {
	if r.isMade() {
		product = r.multiply(a, b)
	}
	return product
}

// multiply answers a * b / R modulo m, for one of them below m: Montgomery's product. Limb by limb of b the sum grows by a times it,
// then by that multiple of m which makes its least limb 0, and that limb is dropped. The sum is always below a + m, so that above is 0
// or 1; at the end it is below a * b / R + m, which is at most 2 m.
func (r *Ring[L]) multiply(a, b L) L {
	var sum L
	var above uint64
	last := len(a) - 1
	for i := range len(b) {
		var carry uint64
		for j := range len(a) {
			carry, sum[j] = multiplyAdd(a[j], b[i], sum[j], carry)
		}
		top, over := bits.Add64(above, carry, 0)

		times := sum[0] * r.fill
		carry, _ = multiplyAdd(times, r.modulus[0], sum[0], 0)
		for j := range last {
			carry, sum[j] = multiplyAdd(times, r.modulus[j+1], sum[j+1], carry)
		}
		sum[last], carry = bits.Add64(top, carry, 0)
		above = over + carry
	}
	return r.reduce(sum, above)
}

// reduce answers above * R + a modulo m, for such that are below 2 m.
func (r *Ring[L]) reduce(a L, above uint64) L {
	less, borrow := minus(a, r.modulus)
	if above == 0 && borrow == 1 {
		return a
	}
	return less
}

// multiplyAdd answers x * y + a + b as two limbs: the greatest it can be is 2^128 - 1. Package limb has the same one; called from there
// products take a good twentieth longer, and with them all that is reckoned on curves.
func multiplyAdd(x, y, a, b uint64) (high, low uint64) {
	high, low = bits.Mul64(x, y)
	low, carry := bits.Add64(low, a, 0)
	high += carry
	low, carry = bits.Add64(low, b, 0)
	return high + carry, low
}
