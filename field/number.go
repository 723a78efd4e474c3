package field

import (
	"math/bits"

	"cairn/api"
)

// limbBytes is how many bytes a limb has.
const limbBytes = limbBits / 8

// Big answers the number that bytes tell, the highest first: P5.5
func Big[L api.Limbs](b []byte) (L, api.Errno) {
	var a L
	if len(b) > limbBytes*len(a) {
		return a, api.ErrLong
	}
	for i := range len(b) {
		a[i/limbBytes] |= uint64(b[len(b)-1-i]) << (8 * (i % limbBytes))
	}
	return a, api.OK
}

// Bytes answers the bytes of a, the highest first: P5.5
func Bytes[L api.Limbs](a L) []byte {
	b := make([]byte, limbBytes*len(a))
	for i := range len(b) {
		b[len(b)-1-i] = byte(a[i/limbBytes] >> (8 * (i % limbBytes)))
	}
	return b
}

// Less tells whether a is below b, as numbers: P5.5
func Less[L api.Limbs](a, b L) bool {
	_, borrow := minus(a, b)
	return borrow == 1
}

// small answers n as a number of the width.
func small[L api.Limbs](n uint64) L {
	var a L
	a[0] = n
	return a
}

// words answers the limbs of a as a list, for an array whose width is open can't be sliced.
func words[L api.Limbs](a L) []uint64 {
	list := make([]uint64, len(a))
	for i := range list {
		list[i] = a[i]
	}
	return list
}

// bit answers 2^n.
func bit[L api.Limbs](n int) L {
	var a L
	a[n/limbBits] = 1 << (n % limbBits)
	return a
}

// bitLength answers how many bits a has without the leading noughts.
func bitLength[L api.Limbs](a L) int {
	for i := len(a) - 1; i >= 0; i-- {
		if a[i] != 0 {
			return limbBits*i + bits.Len64(a[i])
		}
	}
	return 0
}
