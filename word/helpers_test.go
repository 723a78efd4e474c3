package word_test

import (
	"math/big"
	"testing"

	"cairn/api"
)

// The tests hold package word against math/big, which reckons with whole numbers of any size.

var (
	one   = big.NewInt(1)
	whole = new(big.Int).Lsh(one, 256) // 2^256
	half  = new(big.Int).Lsh(one, 255) // 2^255
)

// number is a word as a whole number, by the chapter's rule: w[0] + 2^64 w[1] + 2^128 w[2] + 2^192 w[3].
func number(x api.Word) *big.Int {
	return wide(x[:])
}

// wide is the number of limbs, the least first.
func wide(l []uint64) *big.Int {
	n := new(big.Int)
	for i := len(l) - 1; i >= 0; i-- {
		n.Lsh(n, 64)
		n.Or(n, new(big.Int).SetUint64(l[i]))
	}
	return n
}

// signed is a word as a signed number.
func signed(x api.Word) *big.Int {
	n := number(x)
	if n.Cmp(half) >= 0 {
		n.Sub(n, whole)
	}
	return n
}

// of is a whole number modulo 2^256.
func of(n *big.Int) api.Word {
	m := new(big.Int).Mod(n, whole)
	var x api.Word
	for i := range x {
		x[i] = new(big.Int).Rsh(m, uint(64*i)).Uint64()
	}
	return x
}

// power is 2^n + more.
func power(n uint, more int64) api.Word {
	return of(new(big.Int).Add(new(big.Int).Lsh(one, n), big.NewInt(more)))
}

// neg is -n.
func neg(n int64) api.Word { return of(big.NewInt(-n)) }

// least is -2^255, top is 2^256 - 1.
var (
	least = api.Word{0, 0, 0, 1 << 63}
	top   = api.Word{1<<64 - 1, 1<<64 - 1, 1<<64 - 1, 1<<64 - 1}
)

// edges are the words at which something turns.
func edges() []api.Word {
	l := []api.Word{{}, top, power(256, -2), neg(7), neg(127), neg(128), neg(129)}
	for _, n := range []uint64{1, 2, 3, 7, 10, 12, 16, 29, 30, 31, 32, 33, 63, 65, 127, 128, 129, 191, 193, 254, 255, 257} {
		l = append(l, api.Word{n})
	}
	for _, n := range []uint{6, 8, 15, 16, 31, 32, 63, 64, 127, 128, 191, 192, 247, 248, 254, 255} {
		l = append(l, power(n, -1), power(n, 0), power(n, 1))
	}
	return l
}

// source makes numbers that look as if by chance, the same ones each time.
type source struct{ at uint64 }

func (s *source) next() uint64 {
	s.at = s.at*6364136223846793005 + 1442695040888963407
	x := s.at ^ s.at>>33
	x *= 0xff51afd7ed558ccd
	return x ^ x>>29
}

// limb is any number, and often one of those at which carries and guesses turn.
func (s *source) limb() uint64 {
	switch s.next() >> 60 {
	case 0, 1, 2:
		return 0
	case 3, 4, 5:
		return 1<<64 - 1
	case 6:
		return 1 << 63
	case 7:
		return 1<<63 - 1
	case 8:
		return 1
	case 9:
		return 1<<64 - 2
	case 10:
		return s.next() >> (s.next() % 64)
	}
	return s.next()
}

// word is any word, of any count of limbs.
func (s *source) word() api.Word {
	var x api.Word
	for i := range 1 + s.next()%4 {
		x[i] = s.limb()
	}
	return x
}

// words calls f with every edge and with n words of a source.
func words(n int, f func(x api.Word)) {
	for _, x := range edges() {
		f(x)
	}
	s := source{at: 1}
	for range n {
		f(s.word())
	}
}

// pairs calls f with every two edges and with n pairs of a source.
func pairs(n int, f func(x, y api.Word)) {
	l := edges()
	for _, x := range l {
		for _, y := range l {
			f(x, y)
		}
	}
	s := source{at: 2}
	for range n {
		f(s.word(), s.word())
	}
}

// triples calls f with every three of some edges and with n triples of a source.
func triples(n int, f func(x, y, z api.Word)) {
	l := []api.Word{{}, {1}, {2}, {7}, {12}, power(64, -1), power(64, 0), power(64, 1), power(128, -1), power(128, 0), power(192, -1), power(192, 0), power(255, -1), least, power(255, 1), power(256, -2), top}
	for _, x := range l {
		for _, y := range l {
			for _, z := range l {
				f(x, y, z)
			}
		}
	}
	s := source{at: 3}
	for range n {
		f(s.word(), s.word(), s.word())
	}
}

// want holds what a call of words answered against what it should.
func want(t *testing.T, name string, got, should api.Word, args ...api.Word) {
	t.Helper()
	if got != should {
		t.Fatalf("%s%x: %x, not %x", name, args, got, should)
	}
}

// wantWord is want for calls that answer an error too.
func wantWord(t *testing.T, name string, arg any, got api.Word, e api.Errno, should api.Word, shouldE api.Errno) {
	t.Helper()
	if got != should || e != shouldE {
		t.Fatalf("%s(%q): %x, %d, not %x, %d", name, arg, got, e, should, shouldE)
	}
}
