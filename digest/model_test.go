package digest_test

import "math/bits"

// The models go by the words of the chapter, with nothing worked out ahead: they are slow, and short.

// modelPermute is P3.1's 24 rounds.
func modelPermute(lanes [25]uint64) [25]uint64 {
	var a [5][5]uint64 // a(x, y)
	for i, v := range lanes {
		a[i%5][i/5] = v
	}
	turns, constants := modelTurns(), modelConstants()
	for round := range 24 {
		a = modelTheta(a)
		var b [5][5]uint64
		for x := range 5 {
			for y := range 5 {
				b[y][(2*x+3*y)%5] = bits.RotateLeft64(a[x][y], turns[x][y])
			}
		}
		for x := range 5 {
			for y := range 5 {
				a[x][y] = b[x][y] ^ (^b[(x+1)%5][y] & b[(x+2)%5][y])
			}
		}
		a[0][0] ^= constants[round]
	}
	for i := range lanes {
		lanes[i] = a[i%5][i/5]
	}
	return lanes
}

func modelTheta(a [5][5]uint64) [5][5]uint64 {
	var c [5]uint64
	for x := range 5 {
		for y := range 5 {
			c[x] ^= a[x][y]
		}
	}
	for x := range 5 {
		for y := range 5 {
			a[x][y] ^= c[(x+4)%5] ^ bits.RotateLeft64(c[(x+1)%5], 1)
		}
	}
	return a
}

// modelTurns are the numbers r(x, y).
func modelTurns() [5][5]int {
	var r [5][5]int
	x, y := 1, 0
	for t := range 24 {
		r[x][y] = (t + 1) * (t + 2) / 2 % 64
		x, y = y, (2*x+3*y)%5
	}
	return r
}

// modelConstants are what the register gives for the rounds.
func modelConstants() [24]uint64 {
	var constants [24]uint64
	register := 1
	for t := range 7 * 24 {
		i, j := t/7, t%7
		constants[i] |= uint64(register&1) << (1<<j - 1)
		register *= 2
		if register >= 256 {
			register ^= 0x171
		}
	}
	return constants
}

// modelSponge is Keccak of b if first is 1, and SHA3-256 if it is 6: the text is padded as a whole.
func modelSponge(b []byte, first byte, permute func([25]uint64) [25]uint64) [32]byte {
	padded := append(append([]byte{}, b...), first)
	for len(padded)%136 != 0 {
		padded = append(padded, 0)
	}
	padded[len(padded)-1] |= 0x80
	var a [25]uint64
	for len(padded) > 0 {
		for i, c := range padded[:136] {
			a[i/8] ^= uint64(c) << (8 * (i % 8))
		}
		a = permute(a)
		padded = padded[136:]
	}
	var hash [32]byte
	for i := range hash {
		hash[i] = byte(a[i/8] >> (8 * (i % 8)))
	}
	return hash
}

// modelBlake is P3.5's F.
func modelBlake(rounds int, h [8]uint64, m [16]uint64, t [2]uint64, last bool) [8]uint64 {
	v := append(h[:len(h):len(h)], 0x6a09e667f3bcc908, 0xbb67ae8584caa73b, 0x3c6ef372fe94f82b, 0xa54ff53a5f1d36f1,
		0x510e527fade682d1, 0x9b05688c2b3e6c1f, 0x1f83d9abfb41bd6b, 0x5be0cd19137e2179)
	v[12] ^= t[0]
	v[13] ^= t[1]
	if last {
		v[14] ^= 1<<64 - 1
	}
	places := [8][4]int{{0, 4, 8, 12}, {1, 5, 9, 13}, {2, 6, 10, 14}, {3, 7, 11, 15}, {0, 5, 10, 15}, {1, 6, 11, 12}, {2, 7, 8, 13}, {3, 4, 9, 14}}
	for i := range rounds {
		p := modelSigma[i%10]
		for j, at := range places {
			modelMix(&v[at[0]], &v[at[1]], &v[at[2]], &v[at[3]], m[hexDigit(p[2*j])], m[hexDigit(p[2*j+1])])
		}
	}
	for i := range h {
		h[i] ^= v[i] ^ v[i+8]
	}
	return h
}

// modelSigma has sigma's rows to the base 16.
var modelSigma = [10]string{
	"0123456789abcdef", "ea489fd61c02b753", "b8c052fdae367194", "7931dcbe265a40f8", "905724afe1bc683d",
	"2c6a0b834d75fe19", "c51fed4a0763928b", "db7ec13950f4862a", "6fe9b308c2d714a5", "a2847615fb9e3cd0",
}

func hexDigit(c byte) int {
	if c >= 'a' {
		return int(c-'a') + 10
	}
	return int(c - '0')
}

func modelMix(a, b, c, d *uint64, x, y uint64) {
	for _, half := range []struct {
		word        uint64
		first, then int
	}{{x, 32, 24}, {y, 16, 63}} {
		*a = *a + *b + half.word
		*d = bits.RotateLeft64(*d^*a, -half.first)
		*c = *c + *d
		*b = bits.RotateLeft64(*b^*c, -half.then)
	}
}
