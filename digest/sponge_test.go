package digest_test

import (
	"testing"

	"cairn/api"
	"cairn/digest"
)

// P3.2
func TestNewHasNothing(t *testing.T) {
	s := digest.New()
	if s == nil || s.Sum() != digest.Keccak(nil) {
		t.Error("a new sponge is not empty")
	}
	if s == digest.New() {
		t.Error("two new sponges are one")
	}
}

// P3.2
func TestWriteAnswersTheSame(t *testing.T) {
	s := digest.New()
	for _, b := range [][]byte{nil, {}, {1}, text(135), text(136), text(137), text(1000)} {
		if s.Write(b) != s {
			t.Errorf("Write of %d bytes answers another sponge", len(b))
		}
	}
}

// P3.2
func TestSumBetweenAndTwice(t *testing.T) {
	for _, n := range []int{0, 1, 100, 134, 135, 136, 137, 271, 272, 273} {
		s := digest.New().Write(text(500)[:n])
		for range 3 {
			if s.Sum() != digest.Keccak(text(500)[:n]) {
				t.Errorf("Sum of %d bytes", n)
			}
		}
		for _, more := range []int{0, 1, 8, 135, 136, 137, 200} {
			s := digest.New().Write(text(500)[:n])
			s.Sum()
			s.Write(text(500)[n : n+more])
			s.Sum()
			if s.Sum() != digest.Keccak(text(500)[:n+more]) {
				t.Errorf("Sum of %d bytes, then of %d", n, n+more)
			}
		}
	}
}

// P3.2: a sponge that is nil, and one that New did not make.
func TestNobody(t *testing.T) {
	for name, s := range map[string]*digest.Sponge{"nil": nil, "a zero Sponge": {}} {
		for _, b := range [][]byte{nil, {}, {1}, text(135), text(136), text(300)} {
			if s.Write(b) != s {
				t.Errorf("%s: Write of %d bytes answers another sponge", name, len(b))
			}
			if s != nil && *s != (digest.Sponge{}) {
				t.Errorf("%s: Write of %d bytes has changed it", name, len(b))
			}
			if s.Sum() != digest.Keccak(nil) {
				t.Errorf("%s: Sum behind Write of %d bytes", name, len(b))
			}
		}
	}
}

// P3.2: what one sponge takes is nothing to another.
func TestSpongesApart(t *testing.T) {
	a, b := digest.New(), digest.New()
	for i := range 300 {
		a.Write(text(300)[i : i+1])
		b.Write([]byte{byte(i)}).Write(nil)
	}
	other := make([]byte, 300)
	for i := range other {
		other[i] = byte(i)
	}
	if a.Sum() != digest.Keccak(text(300)) || b.Sum() != digest.Keccak(other) {
		t.Error("two sponges share what they took")
	}
}

// cut writes b in pieces of those lengths, and then what is left.
func cut(b []byte, lengths ...int) api.Hash {
	s := digest.New()
	for _, n := range lengths {
		s.Write(b[:n])
		b = b[n:]
	}
	return s.Write(b).Sum()
}

// P3.6: whole, byte by byte, and in pieces that end at 135, 136 and 137.
func TestInPieces(t *testing.T) {
	for _, n := range []int{0, 1, 7, 8, 9, 134, 135, 136, 137, 138, 271, 272, 273, 408, 1000} {
		b, bytewise := text(n), digest.New()
		for i := range b {
			bytewise.Write(b[i : i+1])
		}
		if bytewise.Sum() != digest.Keccak(b) || cut(b) != digest.Keccak(b) {
			t.Errorf("%d bytes", n)
		}
		for _, first := range []int{135, 136, 137} {
			if first <= n && cut(b, first) != digest.Keccak(b) {
				t.Errorf("%d bytes, cut at %d", n, first)
			}
		}
	}
	b := text(700)
	for _, lengths := range [][]int{{135, 1}, {135, 1, 136}, {135, 2}, {136, 136}, {137, 135}, {137, 134, 1}, {135, 137, 136}, {1, 135, 136, 1}, {0, 135, 0, 1, 0, 136, 0}, {3, 272}, {272, 272}, {271, 1, 271}} {
		if cut(b, lengths...) != digest.Keccak(b) {
			t.Errorf("cut into %v", lengths)
		}
	}
}

// P3.6: every two cuts of a text of more than two pieces.
func TestEveryCut(t *testing.T) {
	b := text(280)
	whole := digest.Keccak(b)
	for i := range len(b) + 1 {
		for j := i; j <= len(b); j += 1 + i%3 {
			if cut(b, i, j-i) != whole {
				t.Fatalf("cut at %d and %d", i, j)
			}
		}
	}
}

// P3.6: pieces of any lengths.
func TestAnyPieces(t *testing.T) {
	s := source{at: 2}
	for range 300 {
		b := text(int(s.next() % 3000))
		var lengths []int
		for left := len(b); left > 0; {
			n := int(s.next() % min(uint64(left)+1, 1+1<<(s.next()%10)))
			lengths = append(lengths, n)
			left -= max(n, 1)
		}
		if cut(b, lengths...) != digest.Keccak(b) {
			t.Fatalf("%d bytes, cut into %v", len(b), lengths)
		}
	}
}
