package word

import (
	"math/bits"

	"cairn/api"
	"cairn/limb"
)

// bitsOfWord is how many bits a word has: a shift by as many leaves none of them.
const bitsOfWord = 256

// Shl answers x times 2^n: P2.7
func Shl(n, x api.Word) api.Word {
	by, ok := within(n, bitsOfWord)
	if !ok {
		return api.Word{}
	}
	over, part := by/64, by%64
	var shifted api.Word
	var below uint64
	for i := range limbs - over {
		shifted[i+over] = x[i]<<part | below
		// A shift by 64, where part is 0, leaves 0: nothing comes up.
		below = x[i] >> (64 - part)
	}
	return shifted
}

// Shr answers the whole part of x / 2^n: P2.7
func Shr(n, x api.Word) api.Word {
	by, ok := within(n, bitsOfWord)
	if !ok {
		return api.Word{}
	}
	over, part := by/64, by%64
	var shifted api.Word
	var above uint64
	for i := range limbs - over {
		at := limbs - 1 - i
		shifted[at-over] = x[at]>>part | above
		above = x[at] << (64 - part)
	}
	return shifted
}

// Sar answers the signed x / 2^n, rounded down: P2.7
func Sar(n, x api.Word) api.Word {
	if isNegative(x) {
		// Not turns what is below 0 round -1/2, so that rounding to nought is rounding down.
		return Not(Shr(n, Not(x)))
	}
	return Shr(n, x)
}

// SignExtend answers the lowest 8 (k + 1) bits of x as a signed number: P2.5
func SignExtend(k, x api.Word) api.Word {
	last, ok := within(k, bytesOfWord-1)
	if !ok {
		return x
	}
	unused := Of(uint64(bitsOfWord - 8*(last+1)))
	return Sar(unused, Shl(unused, x))
}

// Bits answers how many bits x has without leading noughts: P2.7
func Bits(x api.Word) int {
	n := limb.Used(x[:])
	if n == 0 {
		return 0
	}
	return 64*(n-1) + bits.Len64(x[n-1])
}

// within answers x as an int, and whether it is below end.
func within(x api.Word, end int) (int, bool) {
	if Cmp(x, Of(uint64(end))) >= 0 {
		return 0, false
	}
	return int(x[0]), true
}
