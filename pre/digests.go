package pre

import (
	"bytes"

	"cairn/api"
	"cairn/digest"
)

// sha is the contract 2.
type sha struct{ byWord }

func (sha) run(input []byte) ([]byte, api.Errno) {
	h := digest.Sha(input)
	return h[:], api.OK
}

// ripemd is the contract 3.
type ripemd struct{ byWord }

func (ripemd) run(input []byte) ([]byte, api.Errno) {
	h := digest.Ripemd(input)
	return atWordsEnd(h[:]...), api.OK
}

// same is the contract 4.
type same struct{ byWord }

func (same) run(input []byte) ([]byte, api.Errno) { return bytes.Clone(input), api.OK }

// blake is the contract 9.
type blake struct{}

const (
	roundsBytes = 4
	laneBytes   = 8
	blakeBytes  = roundsBytes + (8+16+2)*laneBytes + 1
)

// cost is a unit a round. An input that has another length costs nothing: it fails.
func (blake) cost(input []byte) (uint64, api.Errno) {
	if len(input) != blakeBytes {
		return 0, api.OK
	}
	return uint64(rounds(input)), api.OK
}

func (blake) run(input []byte) ([]byte, api.Errno) {
	if len(input) != blakeBytes || input[blakeBytes-1] > 1 {
		return nil, api.ErrFails
	}
	var h [8]uint64
	var m [16]uint64
	var t [2]uint64
	at := roundsBytes
	for _, lanes := range [][]uint64{h[:], m[:], t[:]} {
		for i := range lanes {
			lanes[i] = lane(cut(input, at, laneBytes))
			at += laneBytes
		}
	}
	return lanesBytes(digest.Blake(rounds(input), h, m, t, input[at] == 1)), api.OK
}

// rounds answers how many rounds an input asks for.
func rounds(input []byte) uint32 {
	var n uint32
	for _, b := range cut(input, 0, roundsBytes) {
		n = n<<8 | uint32(b)
	}
	return n
}

// lane answers the number of laneBytes bytes, the lowest one first.
func lane(b []byte) uint64 {
	var n uint64
	for i := range laneBytes {
		n |= uint64(b[i]) << (8 * i)
	}
	return n
}

// lanesBytes answers the bytes of lanes, of each the lowest one first.
func lanesBytes(lanes [8]uint64) []byte {
	var out []byte
	for _, n := range lanes {
		for range laneBytes {
			out = append(out, byte(n))
			n >>= 8
		}
	}
	return out
}
