package field

import (
	"slices"

	"cairn/api"
)

// Exp answers a to the power e, the least word of e first: P5.4
func (r *Ring[L]) Exp(a L, e []uint64) (power L) {
	if r.isMade() {
		power = r.raise(a, e)
	}
	return power
}

// Inv answers a to the power m - 2: P5.4
func (r *Ring[L]) Inv(a L) (power L) {
	if r.isMade() {
		e, _ := minus(r.modulus, small[L](2))
		power = r.raise(a, words(e))
	}
	return power
}

// Root answers a to the power (m + 1) / 4, and whether that is a root of a: P5.4
func (r *Ring[L]) Root(a L) (root L, ok bool) {
	if !r.isMade() {
		return root, false
	}
	power := r.raise(a, words(quarter(r.modulus)))
	if r.multiply(power, power) != a {
		return root, false
	}
	return power, true
}

// raise answers a to the power e, from the highest bit of e on.
func (r *Ring[L]) raise(a L, e []uint64) L {
	power := r.one
	for _, word := range slices.Backward(e) {
		for i := range limbBits {
			power = r.multiply(power, power)
			if word>>(limbBits-1-i)&1 == 1 {
				power = r.multiply(power, a)
			}
		}
	}
	return power
}

// quarter answers (m + 1) / 4, rounded down, for m odd. As m + 1 might not fit the width, m itself is divided; 1 is missing then, if it
// leaves 3.
func quarter[L api.Limbs](m L) L {
	var q L
	var above uint64
	for i := range len(m) {
		at := len(m) - 1 - i
		q[at] = m[at]>>2 | above<<(limbBits-2)
		above = m[at]
	}
	q, _ = plus(q, small[L](m[0]>>1&1))
	return q
}
