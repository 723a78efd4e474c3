// Package limb reckons with the limbs that great numbers are made of, for the layers that have such: 64 bits each, the least ahead.
package limb

import (
	"math"
	"math/bits"
)

// MultiplyAdd answers x * y + a + b as two limbs: the greatest it can be is 2^128 - 1.
func MultiplyAdd(x, y, a, b uint64) (high, low uint64) {
	high, low = bits.Mul64(x, y)
	low, carry := bits.Add64(low, a, 0)
	high += carry
	low, carry = bits.Add64(low, b, 0)
	return high + carry, low
}

// Used is how many limbs there are without the leading ones that are 0.
func Used(l []uint64) int {
	for i := range len(l) {
		if l[len(l)-1-i] != 0 {
			return len(l) - i
		}
	}
	return 0
}

// Divide leaves of part what it is modulo y, and answers the limb of the quotient: a step of a division as one does it on paper. It is
// for a part of one limb more than y, which is below y * 2^64, and for a y whose highest bit is set, as only then a guess is good.
func Divide(part, y []uint64) uint64 {
	quotient := guess(part, y)
	if subtractProduct(part, y, quotient) {
		quotient--
		addBack(part, y)
	}
	return quotient
}

// guess guesses a limb of a quotient by the highest three limbs of what is left and the highest two of the divisor; the highest is never
// above the divisor's, for else the limb ahead would have been too small. By the divisor's first limb alone the guess is at most two too
// great, so that behind one look at the second limb it is right or one too great. Where there is no second limb it is right at once.
func guess(part, y []uint64) uint64 {
	last := len(y) - 1
	high, middle, first := part[last+1], part[last], y[last]
	quotient, rest, over := uint64(math.MaxUint64), middle, uint64(0)
	if high < first {
		quotient, rest = bits.Div64(high, middle, first)
	} else {
		rest, over = bits.Add64(middle, first, 0)
	}
	if last > 0 && over == 0 && isTooGreat(quotient, y[last-1], rest, part[last-1]) {
		quotient--
	}
	return quotient
}

// isTooGreat tells whether quotient * second is above rest * 2^64 + low.
func isTooGreat(quotient, second, rest, low uint64) bool {
	above, below := bits.Mul64(quotient, second)
	return above > rest || above == rest && below > low
}

// subtractProduct takes y * by away from part, which has one limb more than y, and tells whether that was below 0.
func subtractProduct(part, y []uint64, by uint64) bool {
	var above, product, borrow uint64
	for i := range len(y) {
		above, product = MultiplyAdd(y[i], by, above, 0)
		part[i], borrow = bits.Sub64(part[i], product, borrow)
	}
	part[len(y)], borrow = bits.Sub64(part[len(y)], above, borrow)
	return borrow == 1
}

// addBack adds y to part, which has one limb more than y and is below 0 by less than y.
func addBack(part, y []uint64) {
	var carry uint64
	for i := range len(y) {
		part[i], carry = bits.Add64(part[i], y[i], carry)
	}
	part[len(y)] += carry
}
