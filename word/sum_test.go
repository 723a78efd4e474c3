package word_test

import (
	"math/big"
	"testing"

	"cairn/api"
	"cairn/word"
)

// P2.1
func TestOfAndSmall(t *testing.T) {
	for _, n := range []uint64{0, 1, 255, 1 << 32, 1<<63 - 1, 1 << 63, 1<<64 - 1} {
		want(t, "Of", word.Of(n), api.Word{n, 0, 0, 0})
		if m, ok := word.Small(word.Of(n)); m != n || !ok {
			t.Errorf("Small(%d): %d, %v", n, m, ok)
		}
	}
	for _, x := range []api.Word{{0, 1}, {0, 0, 1}, {0, 0, 0, 1}, {7, 1}, {7, 0, 1}, {7, 0, 0, 1}, least, top, power(64, 1)} {
		if m, ok := word.Small(x); m != 0 || ok {
			t.Errorf("Small(%x): %d, %v", x, m, ok)
		}
	}
	words(1000, func(x api.Word) {
		m, ok := word.Small(x)
		if ok != number(x).IsUint64() || ok && m != x[0] || !ok && m != 0 {
			t.Fatalf("Small(%x): %d, %v", x, m, ok)
		}
	})
}

// P2.2
func TestSums(t *testing.T) {
	pairs(20000, func(x, y api.Word) {
		sum := new(big.Int).Add(number(x), number(y))
		want(t, "Add", word.Add(x, y), of(sum), x, y)
		got, over := word.Carry(x, y)
		want(t, "Carry", got, of(sum), x, y)
		if over != (sum.Cmp(whole) >= 0) {
			t.Fatalf("Carry(%x, %x): %v", x, y, over)
		}
	})
}

// P2.2
func TestDifferences(t *testing.T) {
	pairs(20000, func(x, y api.Word) {
		difference := new(big.Int).Sub(number(x), number(y))
		want(t, "Sub", word.Sub(x, y), of(difference), x, y)
		got, below := word.Borrow(x, y)
		want(t, "Borrow", got, of(difference), x, y)
		if below != (difference.Sign() < 0) {
			t.Fatalf("Borrow(%x, %x): %v", x, y, below)
		}
	})
}

// P2.2
func TestProducts(t *testing.T) {
	pairs(20000, func(x, y api.Word) {
		product := new(big.Int).Mul(number(x), number(y))
		want(t, "Mul", word.Mul(x, y), of(product), x, y)
		got := word.Wide(x, y)
		if wide(got[:]).Cmp(product) != 0 {
			t.Fatalf("Wide(%x, %x): %x", x, y, got)
		}
	})
}

// P2.2: by hand, without the model.
func TestSumsByHand(t *testing.T) {
	full := uint64(1<<64 - 1)
	sum, over := word.Carry(api.Word{full, full, full, 1}, api.Word{1})
	if sum != (api.Word{0, 0, 0, 2}) || over {
		t.Error(sum, over)
	}
	difference, below := word.Borrow(api.Word{0, 0, 0, 2}, api.Word{1})
	if difference != (api.Word{full, full, full, 1}) || below {
		t.Error(difference, below)
	}
	if x, below := word.Borrow(least, least); x != (api.Word{}) || below {
		t.Error(x, below)
	}
	if x, over := word.Carry(least, least); x != (api.Word{}) || !over {
		t.Error(x, over)
	}
	want(t, "Mul", word.Mul(api.Word{0, 1}, api.Word{0, 0, 3}), api.Word{0, 0, 0, 3})
	want(t, "Mul", word.Mul(api.Word{0, 0, 1}, api.Word{0, 0, 3}), api.Word{})
	if w := word.Wide(api.Word{0, 0, 1}, api.Word{0, 0, 3}); w != [8]uint64{4: 3} {
		t.Error(w)
	}
	if w := word.Wide(top, top); w != [8]uint64{1, 0, 0, 0, full - 1, full, full, full} {
		t.Error(w)
	}
}

// P2.10
func TestRing(t *testing.T) {
	pairs(3000, func(x, y api.Word) {
		want(t, "Add", word.Add(x, y), word.Add(y, x), x, y)
		want(t, "Mul", word.Mul(x, y), word.Mul(y, x), x, y)
		want(t, "Sub", word.Sub(word.Add(x, y), y), x, x, y)
		want(t, "Not", word.Not(x), word.Sub(top, x), x)
	})
	triples(3000, func(x, y, z api.Word) {
		want(t, "Add", word.Add(word.Add(x, y), z), word.Add(x, word.Add(y, z)), x, y, z)
		want(t, "Mul", word.Mul(word.Mul(x, y), z), word.Mul(x, word.Mul(y, z)), x, y, z)
		want(t, "Mul", word.Mul(x, word.Add(y, z)), word.Add(word.Mul(x, y), word.Mul(x, z)), x, y, z)
	})
}
