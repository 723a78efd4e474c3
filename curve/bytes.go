package curve

import (
	"bytes"

	"cairn/api"
	"cairn/field"
)

const (
	bnBytes  = 32 // bytes of a coordinate of bn254
	blsBytes = 48 // bytes of a coordinate of BLS12-381
)

// The flags of BLS12-381's bytes. They stand in the highest bits of the first byte, which no number below the prime needs.
const (
	flagShort    = 0x80 // x alone is told
	flagInfinity = 0x40
	flagGreater  = 0x20 // of both y it is the greater one
	flagsAll     = flagShort | flagInfinity | flagGreater
)

// ReadBn1 answers the point of bn254's E1 that bytes tell: P7.6
func ReadBn1(b []byte) (api.P1[[4]uint64], api.Errno) {
	if len(b) != 2*bnBytes {
		return api.P1[[4]uint64]{}, api.ErrLong
	}
	p := api.P1[[4]uint64]{X: bnNumber(b, 0), Y: bnNumber(b, 1)}
	p.Inf = p == api.P1[[4]uint64]{}
	if e := Bn().Good1(p); e != api.OK {
		return api.P1[[4]uint64]{}, e
	}
	return p, api.OK
}

// ReadBn2 answers the point of bn254's G2 that bytes tell: P7.6
func ReadBn2(b []byte) (api.P2[[4]uint64], api.Errno) {
	if len(b) != 4*bnBytes {
		return api.P2[[4]uint64]{}, api.ErrLong
	}
	p := api.P2[[4]uint64]{
		X: [2][4]uint64{bnNumber(b, 1), bnNumber(b, 0)},
		Y: [2][4]uint64{bnNumber(b, 3), bnNumber(b, 2)},
	}
	p.Inf = p == api.P2[[4]uint64]{}
	if e := Bn().Group2(p); e != api.OK {
		return api.P2[[4]uint64]{}, e
	}
	return p, api.OK
}

// bnNumber answers coordinate i of those that stand behind one another in b.
func bnNumber(b []byte, i int) [4]uint64 {
	// So many bytes fit the width: no error comes of it.
	a, _ := field.Big[[4]uint64](b[bnBytes*i : bnBytes*(i+1)])
	return a
}

// WriteBn1 answers the bytes of a point of bn254's E1: P7.6
func WriteBn1(p api.P1[[4]uint64]) []byte {
	if p.Inf {
		return make([]byte, 2*bnBytes)
	}
	return append(field.Bytes(p.X), field.Bytes(p.Y)...)
}

// WriteBn2 answers the bytes of a point of bn254's E2: P7.6
func WriteBn2(p api.P2[[4]uint64]) []byte {
	if p.Inf {
		return make([]byte, 4*bnBytes)
	}
	return bytes.Join([][]byte{field.Bytes(p.X[1]), field.Bytes(p.X[0]), field.Bytes(p.Y[1]), field.Bytes(p.Y[0])}, nil)
}

// ReadBls1 answers the point of BLS12-381's G1 that bytes tell: P7.7
func ReadBls1(b []byte) (api.P1[[6]uint64], api.Errno) {
	if len(b) != blsBytes {
		return api.P1[[6]uint64]{}, api.ErrLong
	}
	flags, x := blsParts(b)
	if flags&flagShort == 0 {
		return api.P1[[6]uint64]{}, api.ErrFlags
	}
	if flags&flagInfinity == 0 {
		return blsPoint(x, flags&flagGreater != 0)
	}
	if flags&flagGreater != 0 || x != [6]uint64{} {
		return api.P1[[6]uint64]{}, api.ErrFlags
	}
	return to1(infinity[[6]uint64]()), api.OK
}

// blsParts answers the flags of bytes, and the number that all other bits tell.
func blsParts(b []byte) (flags byte, x [6]uint64) {
	b = bytes.Clone(b)
	flags = b[0] & flagsAll
	b[0] &^= flagsAll
	// So many bytes fit the width: no error comes of it.
	x, _ = field.Big[[6]uint64](b)
	return flags, x
}

// blsPoint answers the point of G1 of that x whose y is the greater of both, or the smaller.
func blsPoint(x [6]uint64, greater bool) (api.P1[[6]uint64], api.Errno) {
	c := Bls()
	if !c.first.isBelow(x) {
		return api.P1[[6]uint64]{}, api.ErrCoord
	}
	y, ok := c.ring.Root(c.first.squareOfY(c.ring.In(x)))
	if !ok {
		return api.P1[[6]uint64]{}, api.ErrCurve
	}
	p := api.P1[[6]uint64]{X: x, Y: c.ring.Out(y)}
	if isGreater(c, p.Y) != greater {
		p.Y = c.first.negative(p.Y)
	}
	if e := c.Group1(p); e != api.OK {
		return api.P1[[6]uint64]{}, e
	}
	return p, api.OK
}

// WriteBls1 answers the bytes of a point of BLS12-381's E1: P7.7
func WriteBls1(p api.P1[[6]uint64]) ([]byte, api.Errno) {
	c := Bls()
	if e := c.Good1(p); e != api.OK {
		return nil, e
	}
	b := field.Bytes(p.X)
	b[0] |= flagShort
	if p.Inf {
		b[0] |= flagInfinity
	}
	if isGreater(c, p.Y) {
		b[0] |= flagGreater
	}
	return b, api.OK
}

// isGreater tells whether y, below the prime, is greater than its negative: above (p - 1) / 2. (Of infinity both are 0.)
func isGreater(c *Curve[[6]uint64], y [6]uint64) bool { return field.Less(c.first.negative(y), y) }
