package digest_test

import (
	"crypto/sha256"
	"encoding/hex"
	"testing"
)

// text is n bytes in which neither bytes nor words come again soon.
func text(n int) []byte {
	b := make([]byte, n)
	for i := range b {
		b[i] = byte(7*i + i/5 + 3)
	}
	return b
}

// source makes numbers that look as if by chance, the same ones each time.
type source struct{ at uint64 }

func (s *source) next() uint64 {
	s.at = s.at*6364136223846793005 + 1442695040888963407
	x := s.at ^ s.at>>33
	x *= 0xff51afd7ed558ccd
	return x ^ x>>29
}

// state is any state of Keccak.
func (s *source) state() [25]uint64 {
	var a [25]uint64
	for i := range a {
		a[i] = s.next()
	}
	return a
}

// known is a digest of text(long) that was worked out elsewhere.
type known struct {
	long int
	hash string
}

// wantKnown holds what a digest makes of texts against what it should.
func wantKnown(t *testing.T, name string, sum func(b []byte) []byte, answers []known) {
	t.Helper()
	for _, k := range answers {
		wantHex(t, name, sum(text(k.long)), k.hash)
	}
}

// wantAll holds SHA-256 of the digests of text(0) to text(299), behind one another, against what it should be.
func wantAll(t *testing.T, name string, sum func(b []byte) []byte, should string) {
	t.Helper()
	var all []byte
	for n := range 300 {
		all = append(all, sum(text(n))...)
	}
	hash := sha256.Sum256(all)
	wantHex(t, name+", all", hash[:], should)
}

func wantHex(t *testing.T, name string, got []byte, should string) {
	t.Helper()
	if h := hex.EncodeToString(got); h != should {
		t.Errorf("%s: %s, not %s", name, h, should)
	}
}
