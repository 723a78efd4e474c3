package kzg_test

import (
	"bytes"
	"math/big"
	"testing"

	"cairn/api"
	"cairn/curve"
	"cairn/kzg"
)

// firstOf is the error named first of those of an input of 192 bytes, by the chapter's words; isProven is what Proven would say.
func firstOf(b []byte, isProven bool) api.Errno {
	if !bytes.Equal(b[:32], blob(b[96:144])) {
		return api.ErrVersion
	}
	for _, part := range [][]byte{b[32:64], b[64:96]} {
		if !isScalar(new(big.Int).SetBytes(part)) {
			return api.ErrScalar
		}
	}
	for _, part := range [][]byte{b[96:144], b[144:]} {
		if _, e := curve.ReadBls1(part); e != api.OK {
			return e
		}
	}
	if !isProven {
		return api.ErrProof
	}
	return api.OK
}

// right is an input that Check takes, of a line by chance.
func right(at uint64) []byte {
	f := source{at: at}
	a, b, z := f.scalar(), f.scalar(), f.scalar()
	return claimOf(line(a, b), first(b), z, onLine(a, b, z))
}

// P9.4: too short and too long inputs, whatever they begin with.
func TestCheckLong(t *testing.T) {
	whole := right(1)
	refused := [][]byte{nil, {}, make([]byte, 0, 192), whole[:191], append(bytes.Clone(whole), 0), append([]byte{0}, whole...), make([]byte, 1<<20)}
	long := bytes.Repeat(whole, 3)
	for n := range len(long) {
		if n != 192 {
			refused = append(refused, long[:n])
		}
	}
	for _, b := range refused {
		wantCheck(t, "not 192", api.ErrLong, b)
	}
	wantCheck(t, "192", api.OK, long[192:384])
}

// P9.4: each byte of a right input changed: it is told by firstOf what is wrong then, and nothing else proves it.
func TestCheckEachByte(t *testing.T) {
	t.Parallel()
	b := right(2)
	wantCheck(t, "right", api.OK, b)
	seen := map[api.Errno]int{}
	for i := range b {
		for _, with := range []byte{1, 0x10, 0xff} {
			b[i] ^= with
			should := firstOf(b, false)
			seen[should]++
			wantCheck(t, "a byte changed", should, b)
			b[i] ^= with
		}
	}
	wantCheck(t, "right again", api.OK, b)
	for _, e := range []api.Errno{api.ErrVersion, api.ErrScalar, api.ErrProof, api.ErrFlags, api.ErrCoord, api.ErrCurve, api.ErrGroup} {
		if seen[e] == 0 {
			t.Errorf("%d was never met", e)
		}
	}
	if n := seen[api.ErrVersion]; n != 3*(32+48) {
		t.Error(n)
	}
}

// P9.4: each byte of the commitment changed, with the hash put right again.
func TestCheckEachByteOfTheCommitment(t *testing.T) {
	t.Parallel()
	b := right(3)
	seen := map[api.Errno]int{}
	for i := 96; i < 144; i++ {
		for bit := range 8 {
			b[i] ^= 1 << bit
			copy(b, blob(b[96:144]))
			should := firstOf(b, false)
			seen[should]++
			wantCheck(t, "a bit changed", should, b)
			b[i] ^= 1 << bit
		}
	}
	for _, e := range []api.Errno{api.ErrProof, api.ErrFlags, api.ErrCoord, api.ErrCurve, api.ErrGroup} {
		if seen[e] == 0 {
			t.Errorf("%d was never met", e)
		}
	}
}

// P9.4: a hash with another first byte, and the hash of another commitment.
func TestCheckVersion(t *testing.T) {
	b := right(4)
	for n := range 256 {
		b[0] = byte(n)
		if n != 1 {
			wantCheck(t, "another version", api.ErrVersion, b)
		}
	}
	copy(b, blob(b[144:]))
	wantCheck(t, "the proof's hash", api.ErrVersion, b)
	copy(b, blob(right(5)[96:144]))
	wantCheck(t, "another commitment's hash", api.ErrVersion, b)
	copy(b, make([]byte, 32))
	wantCheck(t, "no hash", api.ErrVersion, b)
	copy(b, blob(b[96:144]))
	wantCheck(t, "the right hash", api.OK, b)
}

// P9.4: flags of compressed points, points off the curve and outside the group, in both places.
func TestCheckPoints(t *testing.T) {
	b := right(6)
	for _, x := range badShorts() {
		c := bytes.Clone(b)
		copy(c[96:144], x.b)
		copy(c, blob(x.b))
		wantCheck(t, "commitment: "+x.name, x.e, c)
		c = bytes.Clone(b)
		copy(c[144:], x.b)
		wantCheck(t, "proof: "+x.name, x.e, c)
	}
}

// P9.4: everything that can be wrong, together with everything else: the error named first is answered.
func TestCheckOrder(t *testing.T) {
	t.Parallel()
	f := source{at: 8}
	a, b, z := f.scalar(), f.scalar(), f.scalar()
	points := shortKinds()
	for _, isHash := range []bool{true, false} {
		for _, z := range []*big.Int{z, order(), power(256, -1)} {
			for _, y := range []*big.Int{onLine(a, b, z), plus(onLine(a, b, z), 1), order(), power(256, -1)} {
				for _, c := range append(points, badBytes{b: short(line(a, b))}) {
					for _, proof := range append(points, badBytes{b: short(first(b))}) {
						in := input(z, y, c.b, proof.b)
						if !isHash {
							in[31] ^= 1
						}
						should := api.OK
						switch {
						case !isHash:
							should = api.ErrVersion
						case !isScalar(z) || !isScalar(y):
							should = api.ErrScalar
						case c.e != api.OK:
							should = c.e
						case proof.e != api.OK:
							should = proof.e
						case y.Cmp(onLine(a, b, z)) != 0:
							should = api.ErrProof
						}
						wantCheck(t, c.name+", "+proof.name, should, in)
					}
				}
			}
		}
	}
}

// P9.4: commitments and proofs at infinity.
func TestCheckAtInfinity(t *testing.T) {
	nought := append([]byte{0xc0}, make([]byte, 47)...)
	for _, z := range edges() {
		for _, y := range edges() {
			should := api.ErrProof
			if y.Sign() == 0 {
				should = api.OK
			}
			if !isScalar(z) || !isScalar(y) {
				should = api.ErrScalar
			}
			wantCheck(t, "both", should, input(z, y, nought, nought))
		}
		if isScalar(z) {
			wantCheck(t, "the commitment", api.ErrProof, input(z, whole(0), nought, short(base())))
			wantCheck(t, "the proof", api.ErrProof, input(z, whole(0), short(base()), nought))
			wantCheck(t, "the proof", api.OK, input(z, whole(1), short(base()), nought))
		}
	}
}

// P9.4: where each part stands, and which of its bytes is the highest.
func TestCheckParts(t *testing.T) {
	// 3 X at 2^248 + 5 is 3 2^248 + 15.
	b := make([]byte, 192)
	copy(b[96:], short(line(whole(0), whole(3))))
	copy(b[144:], short(first(whole(3))))
	copy(b, blob(b[96:144]))
	b[32], b[63] = 1, 5
	b[64], b[95] = 3, 15
	wantCheck(t, "3 X", api.OK, b)
	b[32], b[33] = 0, 1
	wantCheck(t, "3 X elsewhere", api.ErrProof, b)
	b[64], b[65] = 0, 3
	wantCheck(t, "3 X there", api.OK, b)
}

// P9.4, P1: bytes by chance, most of them with the right hash and with numbers below r.
func TestCheckByChance(t *testing.T) {
	t.Parallel()
	f := source{at: 9}
	for range 300 {
		b := f.octets(192)
		if f.next()%8 != 0 {
			b[96] |= 0x80
			copy(b, blob(b[96:144]))
		}
		if f.next()%8 != 0 {
			b[32], b[64] = b[32]&0x3f, b[64]&0x3f
		}
		if f.next()%4 == 0 {
			copy(b[96:], short(first(f.scalar())))
			copy(b, blob(b[96:144]))
		}
		wantCheck(t, "by chance", firstOf(b, false), b)
	}
}

// P9.4: of the same points Check takes what Proven takes, and nothing else.
func TestCheckIsProven(t *testing.T) {
	t.Parallel()
	f := source{at: 10}
	for range 10 {
		a, b, z := f.scalar(), f.scalar(), f.scalar()
		y := onLine(a, b, z)
		if f.next()%2 == 0 {
			y = f.scalar()
		}
		is, e := kzg.Proven(line(a, b), first(b), word(z), word(y))
		if e != api.OK {
			t.Fatal(e)
		}
		should := api.OK
		if !is {
			should = api.ErrProof
		}
		wantCheck(t, "by Proven", should, claimOf(line(a, b), first(b), z, y))
	}
}
