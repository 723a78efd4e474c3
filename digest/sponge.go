package digest

import "cairn/api"

// soaked is what a sponge keeps of the bytes that it took.
type soaked struct {
	lanes lanes
	at    int // how many bytes of a piece lie in the lanes that are not permuted yet: always fewer than a whole piece
}

// Sponge takes bytes piece by piece. One that New did not make takes none.
type Sponge struct {
	made bool
	kept soaked
}

// New answers a sponge to which nothing was written: P3.2
func New() *Sponge { return &Sponge{made: true} }

// Write puts b behind all that was written, and answers the same sponge: P3.2
func (s *Sponge) Write(b []byte) *Sponge {
	if s == nil || !s.made {
		return s
	}
	s.kept = soak(s.kept, b)
	return s
}

// Sum answers Keccak of all that was written; more can be written then: P3.2
func (s *Sponge) Sum() api.Hash {
	if s == nil {
		return Keccak(nil)
	}
	return squeeze(s.kept)
}

// soak answers what is kept of the bytes of k with b behind them.
func soak(k soaked, b []byte) soaked {
	for len(b) > 0 {
		n := min(len(b), keccakBytes-k.at)
		k.lanes = xorBytes(k.lanes, k.at, b[:n])
		k.at += n
		b = b[n:]
		if k.at == keccakBytes {
			k = soaked{lanes: Permute(k.lanes)}
		}
	}
	return k
}

// squeeze answers Keccak of the bytes of which k was kept.
func squeeze(k soaked) api.Hash {
	// Both ends of the padding are xor'd in: where one byte is left, they meet in it and make 0x81.
	a := xorByte(k.lanes, k.at, 1)
	a = Permute(xorByte(a, keccakBytes-1, 0x80))
	var hash api.Hash
	for i := range len(hash) {
		hash[i] = byte(a[i/8] >> (8 * (i % 8)))
	}
	return hash
}

// xorBytes answers the lanes a with b xor'd in from the byte at on, eight bytes at once where they are a lane's.
func xorBytes(a lanes, at int, b []byte) lanes {
	for at%8 == 0 && len(b) >= 8 {
		a[at/8] ^= readLane(b[:8])
		at += 8
		b = b[8:]
	}
	for i, c := range b {
		a = xorByte(a, at+i, c)
	}
	return a
}

// xorByte answers the lanes a with c xor'd into the byte at, the least of each lane first.
func xorByte(a lanes, at int, c byte) lanes {
	a[at/8] ^= uint64(c) << (8 * (at % 8))
	return a
}

// readLane answers the number of eight bytes, the least first.
func readLane(b []byte) uint64 {
	return uint64(b[0]) | uint64(b[1])<<8 | uint64(b[2])<<16 | uint64(b[3])<<24 |
		uint64(b[4])<<32 | uint64(b[5])<<40 | uint64(b[6])<<48 | uint64(b[7])<<56
}
