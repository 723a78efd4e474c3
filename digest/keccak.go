package digest

import (
	"math/bits"

	"cairn/api"
)

const (
	keccakRounds = 24
	keccakBytes  = 136 // of a piece of Keccak-256
)

// lanes are Keccak's state: a(x, y) stands at x + 5y.
type lanes = [25]uint64

// keccakConstants are what the register of P3.1 comes to, round by round, so that no permutation has to run it anew.
var keccakConstants = [keccakRounds]uint64{
	0x0000000000000001, 0x0000000000008082, 0x800000000000808a, 0x8000000080008000,
	0x000000000000808b, 0x0000000080000001, 0x8000000080008081, 0x8000000000008009,
	0x000000000000008a, 0x0000000000000088, 0x0000000080008009, 0x000000008000000a,
	0x000000008000808b, 0x800000000000008b, 0x8000000000008089, 0x8000000000008003,
	0x8000000000008002, 0x8000000000000080, 0x000000000000800a, 0x800000008000000a,
	0x8000000080008081, 0x8000000000008080, 0x0000000080000001, 0x8000000080008008,
}

// Keccak answers Keccak-256 of b, as Ethereum has it: P3.1
func Keccak(b []byte) api.Hash { return squeeze(soak(soaked{}, b)) }

// Permute answers Keccak-f[1600] of the lanes a: P3.1
func Permute(a [25]uint64) [25]uint64 {
	for i := range keccakRounds {
		a = keccakRound(a)
		a[0] ^= keccakConstants[i]
	}
	return a
}

// keccakRound answers theta, rho, pi and chi of a. The places and turns of rho and pi are written out: every hash of the node goes
// through here.
func keccakRound(a lanes) lanes {
	c0 := a[0] ^ a[5] ^ a[10] ^ a[15] ^ a[20]
	c1 := a[1] ^ a[6] ^ a[11] ^ a[16] ^ a[21]
	c2 := a[2] ^ a[7] ^ a[12] ^ a[17] ^ a[22]
	c3 := a[3] ^ a[8] ^ a[13] ^ a[18] ^ a[23]
	c4 := a[4] ^ a[9] ^ a[14] ^ a[19] ^ a[24]
	d0 := c4 ^ left64(c1, 1)
	d1 := c0 ^ left64(c2, 1)
	d2 := c1 ^ left64(c3, 1)
	d3 := c2 ^ left64(c4, 1)
	d4 := c3 ^ left64(c0, 1)

	var b lanes
	b[0], b[1], b[2], b[3], b[4] = chi(a[0]^d0, left64(a[6]^d1, 44), left64(a[12]^d2, 43), left64(a[18]^d3, 21), left64(a[24]^d4, 14))
	b[5], b[6], b[7], b[8], b[9] = chi(left64(a[3]^d3, 28), left64(a[9]^d4, 20), left64(a[10]^d0, 3), left64(a[16]^d1, 45), left64(a[22]^d2, 61))
	b[10], b[11], b[12], b[13], b[14] = chi(left64(a[1]^d1, 1), left64(a[7]^d2, 6), left64(a[13]^d3, 25), left64(a[19]^d4, 8), left64(a[20]^d0, 18))
	b[15], b[16], b[17], b[18], b[19] = chi(left64(a[4]^d4, 27), left64(a[5]^d0, 36), left64(a[11]^d1, 10), left64(a[17]^d2, 15), left64(a[23]^d3, 56))
	b[20], b[21], b[22], b[23], b[24] = chi(left64(a[2]^d2, 62), left64(a[8]^d3, 55), left64(a[14]^d4, 39), left64(a[15]^d0, 41), left64(a[21]^d1, 2))
	return b
}

// chi answers the row that chi makes of a row.
func chi(b0, b1, b2, b3, b4 uint64) (a0, a1, a2, a3, a4 uint64) {
	return b0 ^ ^b1&b2, b1 ^ ^b2&b3, b2 ^ ^b3&b4, b3 ^ ^b4&b0, b4 ^ ^b0&b1
}

// left64 answers x turned left by n bits.
func left64(x uint64, n int) uint64 { return bits.RotateLeft64(x, n) }
