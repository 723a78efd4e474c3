package field_test

import (
	"bytes"
	"math/big"
	"testing"

	"cairn/api"
	"cairn/field"
)

// run is n bytes that look as if by chance.
func run(n int) []byte {
	s := source{at: uint64(n)}
	b := make([]byte, n)
	for i := range b {
		b[i] = byte(s.next() >> 32)
	}
	return b
}

// P5.5: of any count of bytes up to the width's.
func TestBig(t *testing.T) { both(t, bigNumbers[[4]uint64], bigNumbers[[6]uint64]) }

func bigNumbers[L api.Limbs](t *testing.T) {
	most := int(width[L]() / 8)
	for n := range most + 1 {
		for _, b := range [][]byte{run(n), bytes.Repeat([]byte{0xff}, n), make([]byte, n)} {
			a, e := field.Big[L](b)
			if a != of[L](new(big.Int).SetBytes(b)) || e != api.OK {
				t.Fatalf("Big(%x): %x, %d", b, a, e)
			}
			padded, e := field.Big[L](append(make([]byte, most-n), b...))
			if a != padded || e != api.OK {
				t.Fatalf("Big of noughts and %x: %x, %d", b, padded, e)
			}
		}
	}
	for _, n := range []int{most + 1, most + 2, 2 * most, 100000} {
		for _, b := range [][]byte{run(n), make([]byte, n)} {
			if a, e := field.Big[L](b); a != small[L](0) || e != api.ErrLong {
				t.Fatalf("Big of %d bytes: %x, %d", n, a, e)
			}
		}
	}
	// P3
	nothing, e := field.Big[L](nil)
	empty, f := field.Big[L]([]byte{})
	if nothing != small[L](0) || empty != nothing || e != api.OK || f != api.OK {
		t.Fatalf("Big of none: %x, %d; %x, %d", nothing, e, empty, f)
	}
}

// P5.5: where each byte goes.
func TestBigOfOneByte(t *testing.T) { both(t, bigOfOneByte[[4]uint64], bigOfOneByte[[6]uint64]) }

func bigOfOneByte[L api.Limbs](t *testing.T) {
	most := int(width[L]() / 8)
	for i := range most {
		b := make([]byte, most)
		b[i] = 0x81
		should := of[L](new(big.Int).Lsh(big.NewInt(0x81), uint(8*(most-1-i))))
		a, e := field.Big[L](b)
		if a != should || e != api.OK {
			t.Fatalf("Big(%x): %x, %d", b, a, e)
		}
		if got := field.Bytes(should); !bytes.Equal(got, b) {
			t.Fatalf("Bytes(%x): %x", should, got)
		}
	}
}

// P5.5
func TestBytes(t *testing.T) { both(t, bytesOf[[4]uint64], bytesOf[[6]uint64]) }

func bytesOf[L api.Limbs](t *testing.T) {
	for _, a := range numbers[L](number(field.BnP()), 200) {
		should := number(a).FillBytes(make([]byte, width[L]()/8))
		b := field.Bytes(a)
		if !bytes.Equal(b, should) {
			t.Fatalf("Bytes(%x): %x", a, b)
		}
		if back, e := field.Big[L](b); back != a || e != api.OK {
			t.Fatalf("Big(Bytes(%x)): %x, %d", a, back, e)
		}
	}
}

// P5.5
func TestLess(t *testing.T) { both(t, less[[4]uint64], less[[6]uint64]) }

func less[L api.Limbs](t *testing.T) {
	l := numbers[L](number(field.BnP()), 60)
	for _, a := range l {
		if field.Less(a, a) {
			t.Fatalf("%x is below itself", a)
		}
		for _, b := range l {
			if field.Less(a, b) != (number(a).Cmp(number(b)) < 0) {
				t.Fatalf("Less(%x, %x): %v", a, b, field.Less(a, b))
			}
		}
		for i := range len(a) {
			b := a
			b[i]++
			greater := b[i] != 0
			if field.Less(a, b) != greater || field.Less(b, a) == greater {
				t.Fatalf("%x and %x, which differ in the word %d", a, b, i)
			}
		}
	}
	// A higher word counts more than all below it.
	for i := 1; i < int(width[L]()/64); i++ {
		a, b := power[L](uint(64*i), -1), power[L](uint(64*i), 0)
		if !field.Less(a, b) || field.Less(b, a) {
			t.Fatalf("%x and %x", a, b)
		}
	}
}
