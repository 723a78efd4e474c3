package digest

import "math/bits"

// blakeStarts are the last eight words at the beginning.
var blakeStarts = [8]uint64{
	0x6a09e667f3bcc908, 0xbb67ae8584caa73b, 0x3c6ef372fe94f82b, 0xa54ff53a5f1d36f1,
	0x510e527fade682d1, 0x9b05688c2b3e6c1f, 0x1f83d9abfb41bd6b, 0x5be0cd19137e2179,
}

// sigma tells, row by row, which words of the message a round takes.
var sigma = [10][16]uint8{
	{0, 1, 2, 3, 4, 5, 6, 7, 8, 9, 10, 11, 12, 13, 14, 15},
	{14, 10, 4, 8, 9, 15, 13, 6, 1, 12, 0, 2, 11, 7, 5, 3},
	{11, 8, 12, 0, 5, 2, 15, 13, 10, 14, 3, 6, 7, 1, 9, 4},
	{7, 9, 3, 1, 13, 12, 11, 14, 2, 6, 5, 10, 4, 0, 15, 8},
	{9, 0, 5, 7, 2, 4, 10, 15, 14, 1, 11, 12, 6, 8, 3, 13},
	{2, 12, 6, 10, 0, 11, 8, 3, 4, 13, 7, 5, 15, 14, 1, 9},
	{12, 5, 1, 15, 14, 13, 4, 10, 0, 7, 6, 3, 9, 2, 8, 11},
	{13, 11, 7, 14, 12, 1, 3, 9, 5, 0, 15, 4, 8, 6, 2, 10},
	{6, 15, 14, 9, 11, 3, 0, 8, 12, 2, 13, 7, 1, 4, 10, 5},
	{10, 2, 8, 4, 7, 6, 1, 5, 15, 11, 9, 14, 3, 12, 13, 0},
}

// Blake answers F of BLAKE2b, in any number of rounds: P3.5
func Blake(rounds uint32, h [8]uint64, m [16]uint64, t [2]uint64, last bool) [8]uint64 {
	v := blakeBegin(h, t, last)
	for i := range rounds {
		v = blakeRound(v, m, sigma[i%10])
	}
	for i := range len(h) {
		h[i] ^= v[i] ^ v[i+8]
	}
	return h
}

// blakeBegin answers v ahead of the first round.
func blakeBegin(h [8]uint64, t [2]uint64, last bool) [16]uint64 {
	var v [16]uint64
	for i := range len(h) {
		v[i], v[i+8] = h[i], blakeStarts[i]
	}
	v[12] ^= t[0]
	v[13] ^= t[1]
	if last {
		v[14] = ^v[14]
	}
	return v
}

// blakeRound answers v behind a round that takes the words of m by the row p.
func blakeRound(v, m [16]uint64, p [16]uint8) [16]uint64 {
	v[0], v[4], v[8], v[12] = mix(v[0], v[4], v[8], v[12], m[p[0]], m[p[1]])
	v[1], v[5], v[9], v[13] = mix(v[1], v[5], v[9], v[13], m[p[2]], m[p[3]])
	v[2], v[6], v[10], v[14] = mix(v[2], v[6], v[10], v[14], m[p[4]], m[p[5]])
	v[3], v[7], v[11], v[15] = mix(v[3], v[7], v[11], v[15], m[p[6]], m[p[7]])
	v[0], v[5], v[10], v[15] = mix(v[0], v[5], v[10], v[15], m[p[8]], m[p[9]])
	v[1], v[6], v[11], v[12] = mix(v[1], v[6], v[11], v[12], m[p[10]], m[p[11]])
	v[2], v[7], v[8], v[13] = mix(v[2], v[7], v[8], v[13], m[p[12]], m[p[13]])
	v[3], v[4], v[9], v[14] = mix(v[3], v[4], v[9], v[14], m[p[14]], m[p[15]])
	return v
}

// mix answers four words of v with two words of the message mixed in.
func mix(a, b, c, d, x, y uint64) (uint64, uint64, uint64, uint64) {
	a += b + x
	d = right64(d^a, 32)
	c += d
	b = right64(b^c, 24)
	a += b + y
	d = right64(d^a, 16)
	c += d
	b = right64(b^c, 63)
	return a, b, c, d
}

// right64 answers x turned right by n bits.
func right64(x uint64, n int) uint64 { return bits.RotateLeft64(x, -n) }
