package pre

import (
	"cairn/api"
	"cairn/word"
)

const (
	sizesBytes = 3 * wordBytes // bytes ahead of base, exponent and modulus, which tell how long these are
	leastPower = 200           // what a power costs at least
	bitsOfByte = 8
)

// power is the contract 5.
type power struct{}

// cost is the square of the longer one of base and modulus, in limbs, a step: those of the exponent's first bytes are its bits, those of
// the others all that there can be.
func (power) cost(input []byte) (uint64, api.Errno) {
	base, exp, mod := sizes(input)
	if base == 0 && mod == 0 {
		return leastPower, api.OK
	}
	if max(base, exp, mod) > api.MaxPart {
		return 0, api.ErrGas
	}
	limbs := uint64(max(base, mod)+limbBytes-1) / limbBytes
	// At most wordBytes bytes are a word: no error comes of it.
	first, _ := word.Read(cut(input, sizesBytes+base, min(exp, wordBytes)))
	steps := max(word.Bits(first)-1, 0) + bitsOfByte*max(exp-wordBytes, 0)
	return max(limbs*limbs*uint64(max(steps, 1))/3, leastPower), api.OK
}

func (power) run(input []byte) ([]byte, api.Errno) {
	base, exp, mod := sizes(input)
	atExp := sizesBytes + base
	atMod := atExp + exp
	return ModExp(cut(input, sizesBytes, base), cut(input, atExp, exp), cut(input, atMod, mod)), api.OK
}

// sizes answers how many bytes base, exponent and modulus have. MaxPart + 1 stands for all that is more: it can't be paid, but where base
// and modulus have no bytes, and there the exponent's don't matter.
func sizes(input []byte) (base, exp, mod int) {
	return size(wordAt(input, 0)), size(wordAt(input, wordBytes)), size(wordAt(input, 2*wordBytes))
}

func size(w api.Word) int {
	if n, isSmall := word.Small(w); isSmall && n <= api.MaxPart {
		return int(n)
	}
	return api.MaxPart + 1
}

// ModExp answers base to the power exp, modulo mod, in as many bytes as mod has: P16.5
func ModExp(base, exp, mod []byte) []byte {
	out := make([]byte, len(mod))
	if m := numberOf(mod); len(m) > 0 {
		raise(numberOf(base), exp, m).write(out)
	}
	return out
}
