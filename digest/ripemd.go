package digest

import (
	"math/bits"

	"cairn/api"
)

const (
	ripemdRounds = 80
	ripemdRow    = 16 // rounds that share one f and one k
)

// The numbers r and s of the left line.
var (
	leftWords = [ripemdRounds]uint8{
		0, 1, 2, 3, 4, 5, 6, 7, 8, 9, 10, 11, 12, 13, 14, 15,
		7, 4, 13, 1, 10, 6, 15, 3, 12, 0, 9, 5, 2, 14, 11, 8,
		3, 10, 14, 4, 9, 15, 8, 1, 2, 7, 0, 6, 13, 11, 5, 12,
		1, 9, 11, 10, 0, 8, 12, 4, 13, 3, 7, 15, 14, 5, 6, 2,
		4, 0, 5, 9, 7, 12, 2, 10, 14, 1, 3, 8, 11, 6, 15, 13,
	}
	leftTurns = [ripemdRounds]uint8{
		11, 14, 15, 12, 5, 8, 7, 9, 11, 13, 14, 15, 6, 7, 9, 8,
		7, 6, 8, 13, 11, 9, 7, 15, 7, 12, 15, 9, 11, 7, 13, 12,
		11, 13, 6, 7, 14, 9, 13, 15, 14, 8, 13, 6, 5, 12, 7, 5,
		11, 12, 14, 15, 14, 15, 9, 8, 9, 14, 5, 6, 8, 6, 5, 12,
		9, 15, 5, 11, 6, 8, 13, 12, 5, 12, 13, 14, 11, 8, 5, 6,
	}
)

// The numbers r' and s' of the right line.
var (
	rightWords = [ripemdRounds]uint8{
		5, 14, 7, 0, 9, 2, 11, 4, 13, 6, 15, 8, 1, 10, 3, 12,
		6, 11, 3, 7, 0, 13, 5, 10, 14, 15, 8, 12, 4, 9, 1, 2,
		15, 5, 1, 3, 7, 14, 6, 9, 11, 8, 12, 2, 10, 0, 4, 13,
		8, 6, 4, 1, 3, 11, 15, 0, 5, 12, 2, 13, 9, 7, 10, 14,
		12, 15, 10, 4, 1, 5, 8, 7, 6, 2, 13, 14, 0, 3, 9, 11,
	}
	rightTurns = [ripemdRounds]uint8{
		8, 9, 9, 11, 13, 15, 15, 5, 7, 7, 8, 11, 14, 14, 12, 6,
		9, 13, 15, 7, 12, 8, 9, 11, 7, 7, 12, 7, 6, 15, 13, 11,
		9, 7, 15, 11, 8, 6, 6, 14, 12, 13, 5, 14, 13, 13, 7, 5,
		15, 5, 8, 11, 14, 14, 6, 14, 6, 9, 12, 9, 12, 5, 15, 8,
		8, 5, 12, 9, 12, 5, 14, 6, 8, 13, 6, 5, 15, 13, 11, 11,
	}
)

// The numbers k and k', one a row.
var (
	leftConstants  = [5]uint32{0, 0x5a827999, 0x6ed9eba1, 0x8f1bbcdc, 0xa953fd4e}
	rightConstants = [5]uint32{0x50a28be6, 0x5c4dd124, 0x6d703ef3, 0x7a6d76e9, 0}
)

// Ripemd answers RIPEMD-160 of b: P3.4
func Ripemd(b []byte) api.Short {
	state := [5]uint32{0x67452301, 0xefcdab89, 0x98badcfe, 0x10325476, 0xc3d2e1f0}
	whole := len(b) - len(b)%pieceBytes
	state = ripemdPieces(state, b[:whole])
	state = ripemdPieces(state, lastPieces(b[whole:], countOfBits(b)))
	var short api.Short
	for i := range len(short) {
		short[i] = byte(state[i/4] >> (8 * (i % 4)))
	}
	return short
}

// ripemdPieces answers the state behind the pieces of b.
func ripemdPieces(h [5]uint32, b []byte) [5]uint32 {
	for i := range len(b) / pieceBytes {
		x := readWords(b[pieceBytes*i : pieceBytes*(i+1)])
		l, r := leftLine(h, x), rightLine(h, x)
		h = [5]uint32{h[1] + l[2] + r[3], h[2] + l[3] + r[4], h[3] + l[4] + r[0], h[4] + l[0] + r[1], h[0] + l[1] + r[2]}
	}
	return h
}

// leftLine answers A to E of the left line behind a piece.
func leftLine(h [5]uint32, x [16]uint32) [5]uint32 {
	a, b, c, d, e := h[0], h[1], h[2], h[3], h[4]
	for j := range ripemdRounds {
		row := j / ripemdRow
		t := a + blend(row, b, c, d) + x[leftWords[j]] + leftConstants[row]
		t = left32(t, int(leftTurns[j])) + e
		a, b, c, d, e = e, t, b, left32(c, 10), d
	}
	return [5]uint32{a, b, c, d, e}
}

// rightLine answers A to E of the right line behind a piece: its f come in the other order.
func rightLine(h [5]uint32, x [16]uint32) [5]uint32 {
	a, b, c, d, e := h[0], h[1], h[2], h[3], h[4]
	for j := range ripemdRounds {
		row := j / ripemdRow
		t := a + blend(4-row, b, c, d) + x[rightWords[j]] + rightConstants[row]
		t = left32(t, int(rightTurns[j])) + e
		a, b, c, d, e = e, t, b, left32(c, 10), d
	}
	return [5]uint32{a, b, c, d, e}
}

// blend answers f of B, C and D, by its number in the left line's order.
func blend(number int, b, c, d uint32) uint32 {
	switch number {
	case 0:
		return b ^ c ^ d
	case 1:
		return b&c | ^b&d
	case 2:
		return (b | ^c) ^ d
	case 3:
		return b&d | c&^d
	default:
		return b ^ (c | ^d)
	}
}

// left32 answers x turned left by n bits.
func left32(x uint32, n int) uint32 { return bits.RotateLeft32(x, n) }
