package digest

import (
	"math/bits"

	"cairn/api"
)

const shaRounds = 64

// shaConstants are the first 32 bits behind the point of the cube roots of the first 64 primes.
var shaConstants = [shaRounds]uint32{
	0x428a2f98, 0x71374491, 0xb5c0fbcf, 0xe9b5dba5, 0x3956c25b, 0x59f111f1, 0x923f82a4, 0xab1c5ed5,
	0xd807aa98, 0x12835b01, 0x243185be, 0x550c7dc3, 0x72be5d74, 0x80deb1fe, 0x9bdc06a7, 0xc19bf174,
	0xe49b69c1, 0xefbe4786, 0x0fc19dc6, 0x240ca1cc, 0x2de92c6f, 0x4a7484aa, 0x5cb0a9dc, 0x76f988da,
	0x983e5152, 0xa831c66d, 0xb00327c8, 0xbf597fc7, 0xc6e00bf3, 0xd5a79147, 0x06ca6351, 0x14292967,
	0x27b70a85, 0x2e1b2138, 0x4d2c6dfc, 0x53380d13, 0x650a7354, 0x766a0abb, 0x81c2c92e, 0x92722c85,
	0xa2bfe8a1, 0xa81a664b, 0xc24b8b70, 0xc76c51a3, 0xd192e819, 0xd6990624, 0xf40e3585, 0x106aa070,
	0x19a4c116, 0x1e376c08, 0x2748774c, 0x34b0bcb5, 0x391c0cb3, 0x4ed8aa4a, 0x5b9cca4f, 0x682e6ff3,
	0x748f82ee, 0x78a5636f, 0x84c87814, 0x8cc70208, 0x90befffa, 0xa4506ceb, 0xbef9a3f7, 0xc67178f2,
}

// Sha answers SHA-256 of b: P3.3
func Sha(b []byte) api.Hash {
	state := [8]uint32{0x6a09e667, 0xbb67ae85, 0x3c6ef372, 0xa54ff53a, 0x510e527f, 0x9b05688c, 0x1f83d9ab, 0x5be0cd19}
	whole := len(b) - len(b)%pieceBytes
	state = shaPieces(state, b[:whole])
	state = shaPieces(state, lastPieces(b[whole:], reversed(countOfBits(b))))
	var hash api.Hash
	for i := range len(hash) {
		hash[i] = byte(state[i/4] >> (24 - 8*(i%4)))
	}
	return hash
}

// shaPieces answers the state behind the pieces of b.
func shaPieces(state [8]uint32, b []byte) [8]uint32 {
	for i := range len(b) / pieceBytes {
		state = shaPiece(state, shaWords(b[pieceBytes*i:pieceBytes*(i+1)]))
	}
	return state
}

// shaWords answers w(0) to w(63) of a piece.
func shaWords(piece []byte) [shaRounds]uint32 {
	var w [shaRounds]uint32
	first := readHighFirst(piece)
	copy(w[:], first[:])
	for t := len(first); t < shaRounds; t++ {
		x, y := w[t-15], w[t-2]
		s0 := right32(x, 7) ^ right32(x, 18) ^ x>>3
		s1 := right32(y, 17) ^ right32(y, 19) ^ y>>10
		w[t] = s1 + w[t-7] + s0 + w[t-16]
	}
	return w
}

// shaPiece answers the state behind a piece.
func shaPiece(state [8]uint32, w [shaRounds]uint32) [8]uint32 {
	a, b, c, d := state[0], state[1], state[2], state[3]
	e, f, g, h := state[4], state[5], state[6], state[7]
	for t := range shaRounds {
		t1 := h + (right32(e, 6) ^ right32(e, 11) ^ right32(e, 25)) + (e&f ^ ^e&g) + shaConstants[t] + w[t]
		t2 := (right32(a, 2) ^ right32(a, 13) ^ right32(a, 22)) + (a&b ^ a&c ^ b&c)
		h, g, f, e = g, f, e, d+t1
		d, c, b, a = c, b, a, t1+t2
	}
	return [8]uint32{
		state[0] + a, state[1] + b, state[2] + c, state[3] + d,
		state[4] + e, state[5] + f, state[6] + g, state[7] + h,
	}
}

// right32 answers x turned right by n bits.
func right32(x uint32, n int) uint32 { return bits.RotateLeft32(x, -n) }
