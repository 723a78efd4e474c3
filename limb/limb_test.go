package limb_test

import (
	"math/big"
	"slices"
	"testing"

	"cairn/limb"
)

// number are limbs as a whole number, the least ahead.
func number(l ...uint64) *big.Int {
	n := new(big.Int)
	for _, x := range slices.Backward(l) {
		n.Or(n.Lsh(n, 64), new(big.Int).SetUint64(x))
	}
	return n
}

// source makes numbers that look as if by chance, the same ones each time.
type source struct{ at uint64 }

func (s *source) next() uint64 {
	s.at = s.at*6364136223846793005 + 1442695040888963407
	x := s.at ^ s.at>>33
	x *= 0xff51afd7ed558ccd
	return x ^ x>>29
}

// limb is any one, or one at which something turns; limbs are n of them.
func (s *source) limb() uint64 {
	edges := []uint64{0, 1, 2, 3, 1 << 63, 1<<63 - 1, 1<<63 + 1, 1<<64 - 1, 1<<64 - 2}
	if i := s.next() % 16; i < uint64(len(edges)) {
		return edges[i]
	}
	return s.next()
}

func (s *source) limbs(n int) []uint64 {
	l := make([]uint64, n)
	for i := range l {
		l[i] = s.limb()
	}
	return l
}

func TestMultiplyAdd(t *testing.T) {
	s := source{at: 1}
	check := func(x, y, a, b uint64) {
		high, low := limb.MultiplyAdd(x, y, a, b)
		should := new(big.Int).Mul(number(x), number(y))
		should.Add(should, number(a)).Add(should, number(b))
		if number(low, high).Cmp(should) != 0 {
			t.Fatalf("%x, %x, %x, %x: %x, %x", x, y, a, b, high, low)
		}
	}
	for range 100000 {
		check(s.limb(), s.limb(), s.limb(), s.limb())
	}
	check(1<<64-1, 1<<64-1, 1<<64-1, 1<<64-1)
}

func TestUsed(t *testing.T) {
	for _, c := range []struct {
		l    []uint64
		used int
	}{{nil, 0}, {[]uint64{0}, 0}, {[]uint64{0, 0}, 0}, {[]uint64{1}, 1}, {[]uint64{0, 1}, 2}, {[]uint64{1, 0}, 1}, {[]uint64{0, 1 << 63, 0, 0}, 2}, {[]uint64{1, 2, 3}, 3}} {
		if n := limb.Used(c.l); n != c.used {
			t.Errorf("%x: %d, not %d", c.l, n, c.used)
		}
	}
}

// check divides part by y, if part is below y * 2^64, and holds that against whole numbers. It tells whether it did.
func check(t *testing.T, part, y []uint64) bool {
	t.Helper()
	if number(part[1:]...).Cmp(number(y...)) >= 0 {
		return false
	}
	was := slices.Clone(part)
	wasY := slices.Clone(y)
	quotient, rest := new(big.Int).DivMod(number(part...), number(y...), new(big.Int))
	if q := limb.Divide(part, y); number(q).Cmp(quotient) != 0 || number(part...).Cmp(rest) != 0 || !slices.Equal(y, wasY) {
		t.Fatalf("%x by %x: %x, %x, not %x, %x", was, wasY, q, part, quotient, rest)
	}
	return true
}

func TestDivide(t *testing.T) {
	s := source{at: 2}
	count := 0
	for range 200000 {
		y := s.limbs(1 + int(s.next()%5))
		y[len(y)-1] |= 1 << 63
		if check(t, s.limbs(len(y)+1), y) {
			count++
		}
	}
	if count < 50000 {
		t.Error(count)
	}
}

// What is just below, at and above a multiple of the divisor.
func TestDivideAtMultiples(t *testing.T) {
	s := source{at: 3}
	for range 50000 {
		y := s.limbs(1 + int(s.next()%4))
		y[len(y)-1] |= 1 << 63
		multiple := new(big.Int).Mul(number(y...), number(s.limb()))
		for d := int64(-2); d <= 2; d++ {
			part := make([]uint64, len(y)+1)
			n := new(big.Int).Add(multiple, big.NewInt(d))
			if n.Sign() < 0 {
				continue
			}
			for i := range part {
				part[i] = new(big.Int).And(new(big.Int).Rsh(n, uint(64*i)), number(1<<64-1)).Uint64()
			}
			check(t, part, y)
		}
	}
}

// A part that begins as the divisor does: the guess is the greatest limb.
func TestDivideSameBeginning(t *testing.T) {
	s := source{at: 4}
	count := 0
	for range 50000 {
		y := s.limbs(2 + int(s.next()%3))
		y[len(y)-1] |= 1 << 63
		part := append(s.limbs(len(y)), y[len(y)-1])
		if check(t, part, y) {
			count++
		}
	}
	if count < 10000 {
		t.Error(count)
	}
}
