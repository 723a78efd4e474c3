package word

import (
	"math/bits"

	"cairn/api"
	"cairn/limb"
)

// Div answers the whole part of x / y: P2.3
func Div(x, y api.Word) api.Word {
	quotient, _ := divide(x, y)
	return quotient
}

// Mod answers what Div leaves: P2.3
func Mod(x, y api.Word) api.Word {
	_, rest := divide(x, y)
	return rest
}

// SDiv answers the quotient of signed numbers, cut towards 0: P2.3
func SDiv(x, y api.Word) api.Word {
	quotient := Div(size(x), size(y))
	if isNegative(x) != isNegative(y) {
		return negate(quotient)
	}
	return quotient
}

// SMod answers what SDiv leaves, with the sign of x: P2.3
func SMod(x, y api.Word) api.Word {
	rest := Mod(size(x), size(y))
	if isNegative(x) {
		return negate(rest)
	}
	return rest
}

// AddMod answers (x + y) modulo n: P2.4
func AddMod(x, y, n api.Word) api.Word {
	sum, over := Carry(x, y)
	wide := widen(sum)
	if over {
		wide[limbs] = 1
	}
	_, rest := divideWide(wide, n)
	return rest
}

// MulMod answers (x * y) modulo n: P2.4
func MulMod(x, y, n api.Word) api.Word {
	_, rest := divideWide(Wide(x, y), n)
	return rest
}

// size is a signed number without its sign. That of -2^255 is 2^255, which as a word is itself.
func size(x api.Word) api.Word {
	if isNegative(x) {
		return negate(x)
	}
	return x
}

func widen(x api.Word) [8]uint64 {
	return [8]uint64{x[0], x[1], x[2], x[3]}
}

// divide answers the whole part of x / y and what is left: both 0, if y is 0.
func divide(x, y api.Word) (quotient, rest api.Word) {
	wide, rest := divideWide(widen(x), y)
	for i := range limbs {
		quotient[i] = wide[i]
	}
	return quotient, rest
}

// divideWide answers the whole part of x / y and what is left: both 0, if y is 0.
func divideWide(x [8]uint64, y api.Word) (quotient [8]uint64, rest api.Word) {
	n := limb.Used(y[:])
	switch n {
	case 0:
		return [8]uint64{}, api.Word{}
	case 1:
		return divideByLimb(x, y[0])
	default:
		return divideByLimbs(x, y, n)
	}
}

func divideByLimb(x [8]uint64, y uint64) (quotient [8]uint64, rest api.Word) {
	n := limb.Used(x[:])
	for i := range n {
		at := n - 1 - i
		quotient[at], rest[0] = bits.Div64(rest[0], x[at], y)
	}
	return quotient, rest
}

// divideByLimbs divides by a number of n limbs, two or more, as one does on paper: limb by limb of the quotient, each of them guessed by
// the highest limbs. Both numbers are raised first till the divisor's highest bit is set, for only then a guess is good.
func divideByLimbs(x [8]uint64, y api.Word, n int) (quotient [8]uint64, rest api.Word) {
	raised := uint64(bits.LeadingZeros64(y[n-1]))
	y = Shl(Of(raised), y)
	left := raise(x, raised)
	places := limb.Used(x[:]) - n + 1
	for i := range places {
		at := places - 1 - i
		quotient[at] = limb.Divide(left[at:at+n+1], y[:n])
	}
	return quotient, Shr(Of(raised), api.Word{left[0], left[1], left[2], left[3]})
}

// raise answers x * 2^n, n below 64.
func raise(x [8]uint64, n uint64) [9]uint64 {
	var raised [9]uint64
	var below uint64
	for i := range len(x) {
		raised[i] = x[i]<<n | below
		below = x[i] >> (64 - n)
	}
	raised[len(x)] = below
	return raised
}
