package digest_test

import (
	"bytes"
	"testing"

	"cairn/digest"
)

// digests are the calls that take bytes.
func digests() map[string]func(b []byte) []byte {
	return map[string]func(b []byte) []byte{
		"Keccak": keccak,
		"Sha":    sha,
		"Ripemd": ripemd,
		"Sponge": func(b []byte) []byte {
			h := digest.New().Write(b).Sum()
			return h[:]
		},
	}
}

// P3
func TestNilIsEmpty(t *testing.T) {
	for name, sum := range digests() {
		if !bytes.Equal(sum(nil), sum([]byte{})) {
			t.Error(name)
		}
	}
}

// P2: what is given is not changed, and what lies behind its length is neither read nor written.
func TestArgumentsAreLeft(t *testing.T) {
	for name, sum := range digests() {
		for _, n := range []int{0, 1, 55, 56, 64, 119, 135, 136, 137, 300} {
			whole := text(600)
			got := sum(whole[:n])
			if !bytes.Equal(whole, text(600)) {
				t.Errorf("%s of %d bytes has written", name, n)
			}
			clear(whole[n:])
			if !bytes.Equal(got, sum(whole[:n])) || !bytes.Equal(got, sum(text(n))) {
				t.Errorf("%s of %d bytes has read behind them", name, n)
			}
		}
	}
}

// P2: a sponge keeps none of the memory that it is given, and an answer is its own.
func TestSpongeSharesNothing(t *testing.T) {
	for _, n := range []int{1, 8, 135, 136, 137, 300} {
		b := text(n)
		s := digest.New().Write(b)
		clear(b)
		h := s.Sum()
		clear(h[:])
		if s.Sum() != digest.Keccak(text(n)) {
			t.Errorf("%d bytes", n)
		}
	}
}

// P3: an answer hangs on the arguments alone, not on what was asked ahead of it.
func TestAnswersComeAgain(t *testing.T) {
	h, m, count := numbers()
	permuted, blaked := digest.Permute([25]uint64{1}), digest.Blake(12, h, m, count, true)
	for name, sum := range digests() {
		first := sum(text(200))
		sum(text(77))
		if !bytes.Equal(first, sum(text(200))) {
			t.Error(name)
		}
	}
	if digest.Permute([25]uint64{1}) != permuted || digest.Blake(12, h, m, count, true) != blaked {
		t.Error("Permute or Blake")
	}
}
