package word

import (
	"cairn/api"
	"cairn/limb"
)

// Mul answers x * y: P2.2
func Mul(x, y api.Word) api.Word {
	var product api.Word
	for i := range limbs {
		var carry uint64
		// What would stand at limb 4 or above is lost, so it is not reckoned at all.
		for j := range limbs - i {
			carry, product[i+j] = limb.MultiplyAdd(x[i], y[j], product[i+j], carry)
		}
	}
	return product
}

// Wide answers x * y, all of it: P2.2
func Wide(x, y api.Word) [8]uint64 {
	var product [8]uint64
	for i := range limbs {
		var carry uint64
		for j := range limbs {
			carry, product[i+j] = limb.MultiplyAdd(x[i], y[j], product[i+j], carry)
		}
		product[i+limbs] = carry
	}
	return product
}

// Exp answers x to the power y: P2.4
func Exp(x, y api.Word) api.Word {
	power := Of(1)
	for i := range Bits(y) {
		if y[i/64]>>(i%64)&1 == 1 {
			power = Mul(power, x)
		}
		x = Mul(x, x)
	}
	return power
}

// multiplyLimb answers x * y + a, and what of that is above the word.
func multiplyLimb(x api.Word, y, a uint64) (api.Word, uint64) {
	carry := a
	for i := range limbs {
		carry, x[i] = limb.MultiplyAdd(x[i], y, carry, 0)
	}
	return x, carry
}
