package word

import (
	"math/bits"

	"cairn/api"
)

// Mul answers x * y: P2.2
func Mul(x, y api.Word) api.Word {
	var product api.Word
	for i := range limbs {
		var carry uint64
		// What would stand at limb 4 or above is lost, so it is not reckoned at all.
		for j := range limbs - i {
			carry, product[i+j] = multiplyAdd(x[i], y[j], product[i+j], carry)
		}
	}
	return product
}

// Wide answers x * y, all of it: P2.2
func Wide(x, y api.Word) [8]uint64 {
	var product [8]uint64
	for i := range limbs {
		var carry uint64
		for j := range limbs {
			carry, product[i+j] = multiplyAdd(x[i], y[j], product[i+j], carry)
		}
		product[i+limbs] = carry
	}
	return product
}

// Exp answers x to the power y: P2.4
func Exp(x, y api.Word) api.Word {
	power := Of(1)
	for i := range Bits(y) {
		if y[i/64]>>(i%64)&1 == 1 {
			power = Mul(power, x)
		}
		x = Mul(x, x)
	}
	return power
}

// multiplyAdd answers x * y + a + b as two limbs: the greatest it can be is 2^128 - 1.
func multiplyAdd(x, y, a, b uint64) (high, low uint64) {
	high, low = bits.Mul64(x, y)
	low, carry := bits.Add64(low, a, 0)
	high += carry
	low, carry = bits.Add64(low, b, 0)
	return high + carry, low
}

// multiplyLimb answers x * y + a, and what of that is above the word.
func multiplyLimb(x api.Word, y, a uint64) (api.Word, uint64) {
	carry := a
	for i := range limbs {
		carry, x[i] = multiplyAdd(x[i], y, carry, 0)
	}
	return x, carry
}
