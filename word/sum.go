package word

import (
	"math/bits"

	"cairn/api"
)

// Add answers x + y: P2.2
func Add(x, y api.Word) api.Word {
	sum, _ := Carry(x, y)
	return sum
}

// Sub answers x - y: P2.2
func Sub(x, y api.Word) api.Word {
	difference, _ := Borrow(x, y)
	return difference
}

// Carry answers x + y, and whether that was too great for a word: P2.2
func Carry(x, y api.Word) (api.Word, bool) {
	var carry uint64
	for i := range limbs {
		x[i], carry = bits.Add64(x[i], y[i], carry)
	}
	return x, carry == 1
}

// Borrow answers x - y, and whether that was below 0: P2.2
func Borrow(x, y api.Word) (api.Word, bool) {
	var borrow uint64
	for i := range limbs {
		x[i], borrow = bits.Sub64(x[i], y[i], borrow)
	}
	return x, borrow == 1
}
