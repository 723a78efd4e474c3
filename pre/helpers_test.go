package pre_test

import (
	"bytes"
	"math/big"
	"testing"

	"cairn/api"
	"cairn/pre"
)

const (
	mostMemory = 8388608 // MaxMemory
	mostPart   = 65536   // MaxPart
)

// number is n of digits to the base 16, octets are their bytes.
func number(digits string) *big.Int {
	n, ok := new(big.Int).SetString(digits, 16)
	if !ok {
		panic(digits)
	}
	return n
}

func octets(digits string) []byte { return number(digits).FillBytes(make([]byte, len(digits)/2)) }

// whole is n, plus is n + d, power is 2^n + d.
func whole(n int64) *big.Int { return big.NewInt(n) }

func plus(n *big.Int, d int64) *big.Int { return new(big.Int).Add(n, whole(d)) }

func power(n uint, d int64) *big.Int { return plus(new(big.Int).Lsh(whole(1), n), d) }

// of are the bytes as a number.
func of(b []byte) *big.Int { return new(big.Int).SetBytes(b) }

// word32 are 32 bytes of a number, word32s those of several, and join puts lists behind one another.
func word32(n *big.Int) []byte { return n.FillBytes(make([]byte, 32)) }

func word32s(l ...*big.Int) (b []byte) {
	for _, n := range l {
		b = append(b, word32(n)...)
	}
	return b
}

func join(l ...[]byte) []byte { return bytes.Join(l, nil) }

// noughts are n bytes of 0, bytesOf are n of b.
func noughts(n int) []byte { return make([]byte, n) }

func bytesOf(n int, b byte) []byte { return bytes.Repeat([]byte{b}, n) }

// asWord is a number as a word.
func asWord(n *big.Int) (w api.Word) {
	for i := range w {
		w[i] = new(big.Int).And(new(big.Int).Rsh(n, uint(64*i)), power(64, -1)).Uint64()
	}
	return w
}

// source makes numbers that look as if by chance, the same ones each time.
type source struct{ at uint64 }

func (s *source) next() uint64 {
	s.at = s.at*6364136223846793005 + 1442695040888963407
	x := s.at ^ s.at>>33
	x *= 0xff51afd7ed558ccd
	return x ^ x>>29
}

// below is any number below n.
func (s *source) below(n int) int { return int(s.next() % uint64(n)) }

// octets are n bytes: any, or such that limbs are often 0, 1, the greatest or near it, or just their highest bit.
func (s *source) octets(n int) []byte {
	b := make([]byte, n)
	isAny := s.below(2) == 0
	for at := n; at > 0; at -= 8 {
		limb := s.next()
		if !isAny {
			limb = []uint64{0, 1, 2, 1<<64 - 1, 1<<64 - 2, 1 << 63, 1<<63 - 1, 1<<63 + 1, limb}[s.below(9)]
		}
		for i := at - 1; i >= max(at-8, 0); i-- {
			b[i] = byte(limb)
			limb >>= 8
		}
	}
	return b
}

// good is what a call that goes well answers.
func good[P any](p P, e api.Errno) P {
	if e != api.OK {
		panic(e)
	}
	return p
}

// wantCost holds Cost against what it should be, and Call and Run where it is an error.
func wantCost(t *testing.T, name string, n int, input []byte, should uint64, shouldE api.Errno) {
	t.Helper()
	if cost, e := pre.Cost(n, input); cost != should || e != shouldE {
		t.Errorf("%s: Cost of %d, %d bytes: %d, %d, not %d, %d", name, n, len(input), cost, e, should, shouldE)
	}
	if shouldE != api.OK {
		wantRun(t, name, n, input, nil, shouldE)
	}
}

// wantRun holds Run against what it should be, and Call with what it costs, with more, and with one too little.
func wantRun(t *testing.T, name string, n int, input, should []byte, shouldE api.Errno) {
	t.Helper()
	if out, e := pre.Run(n, input); !bytes.Equal(out, should) || e != shouldE {
		t.Errorf("%s: Run of %d, %x: %x, %d, not %x, %d", name, n, head(input), head(out), e, head(should), shouldE)
	}
	cost, costE := pre.Cost(n, input)
	if costE != api.OK {
		wantCall(t, name, n, input, 1<<64-1, nil, 0, costE)
		return
	}
	for _, more := range []uint64{0, 1, 1 << 40} {
		left := more
		if shouldE != api.OK {
			left = 0
		}
		wantCall(t, name, n, input, cost+more, should, left, shouldE)
	}
	if cost > 0 {
		wantCall(t, name, n, input, cost-1, nil, 0, api.ErrGas)
		wantCall(t, name, n, input, 0, nil, 0, api.ErrGas)
	}
}

// wantCall holds Call against what it should be.
func wantCall(t *testing.T, name string, n int, input []byte, gas uint64, should []byte, shouldLeft uint64, shouldE api.Errno) {
	t.Helper()
	if out, left, e := pre.Call(n, input, gas); !bytes.Equal(out, should) || left != shouldLeft || e != shouldE {
		t.Errorf("%s: Call of %d, %x, %d: %x, %d, %d, not %x, %d, %d", name, n, head(input), gas, head(out), left, e, head(should), shouldLeft, shouldE)
	}
}

// head are the first bytes of b, few enough to be told.
func head(b []byte) []byte { return b[:min(len(b), 400)] }
