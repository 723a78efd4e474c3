package gas_test

import (
	"math/big"
	"testing"

	"cairn/api"
)

const mostMemory = 8388608 // MaxMemory

// tooDear is MaxGas + 1.
const tooDear = 33554433

// top is the greatest word.
var top = api.Word{1<<64 - 1, 1<<64 - 1, 1<<64 - 1, 1<<64 - 1}

// number is a word as a whole number.
func number(x api.Word) *big.Int {
	n := new(big.Int)
	for i := len(x) - 1; i >= 0; i-- {
		n.Lsh(n, 64)
		n.Or(n, new(big.Int).SetUint64(x[i]))
	}
	return n
}

// huge are the words above MaxMemory at which something turns; that of some is small once limbs of it are left out.
func huge() []api.Word {
	return []api.Word{
		{mostMemory + 1}, {mostMemory + 31}, {1 << 32}, {1 << 40}, {1 << 63}, {1<<64 - 1}, {1<<64 - 31},
		{0, 1}, {0, 0, 1}, {0, 0, 0, 1}, {5, 1}, {5, 0, 1}, {5, 0, 0, 1}, {0, 0, 0, 1 << 63}, top,
	}
}

// source makes numbers that look as if by chance, the same ones each time.
type source struct{ at uint64 }

func (s *source) next() uint64 {
	s.at = s.at*6364136223846793005 + 1442695040888963407
	x := s.at ^ s.at>>33
	x *= 0xff51afd7ed558ccd
	return x ^ x>>29
}

// below is any number below n.
func (s *source) below(n int) int { return int(s.next() % uint64(n)) }

// any is a number of any count of bits.
func (s *source) any() uint64 { return s.next() >> s.below(64) }

// bytes are n bytes, often those that say something as code.
func (s *source) bytes(n int) []byte {
	b := make([]byte, n)
	for i := range b {
		switch s.below(4) {
		case 0:
			b[i] = 0x5b
		case 1:
			b[i] = byte(0x5f + s.below(34))
		default:
			b[i] = byte(s.next())
		}
	}
	return b
}

// want holds a cost against what it should be.
func want(t *testing.T, name string, got, should uint64, args ...any) {
	t.Helper()
	if got != should {
		t.Fatalf("%s%v: %d, not %d", name, args, got, should)
	}
}

// wantErrno is want for calls that answer an error, too.
func wantErrno(t *testing.T, name string, got uint64, e api.Errno, should uint64, shouldE api.Errno, args ...any) {
	t.Helper()
	if got != should || e != shouldE {
		t.Fatalf("%s%v: %d, %d, not %d, %d", name, args, got, e, should, shouldE)
	}
}
