package word_test

import (
	"math/big"
	"testing"

	"cairn/api"
	"cairn/word"
)

// P2.4
func TestModulo(t *testing.T) {
	triples(100000, func(x, y, n api.Word) {
		if n == (api.Word{}) {
			want(t, "AddMod", word.AddMod(x, y, n), api.Word{}, x, y, n)
			want(t, "MulMod", word.MulMod(x, y, n), api.Word{}, x, y, n)
			return
		}
		sum := new(big.Int).Add(number(x), number(y))
		want(t, "AddMod", word.AddMod(x, y, n), of(sum.Mod(sum, number(n))), x, y, n)
		product := new(big.Int).Mul(number(x), number(y))
		want(t, "MulMod", word.MulMod(x, y, n), of(product.Mod(product, number(n))), x, y, n)
	})
}

// P2.4: sums and products beyond 2^256.
func TestModuloIsOfTheWhole(t *testing.T) {
	want(t, "AddMod", word.AddMod(top, api.Word{1}, api.Word{7}), api.Word{2})
	want(t, "AddMod", word.AddMod(top, top, top), api.Word{})
	want(t, "AddMod", word.AddMod(top, power(256, -2), top), power(256, -2))
	want(t, "AddMod", word.AddMod(least, least, power(255, 1)), power(255, -1))
	want(t, "AddMod", word.AddMod(top, top, api.Word{1}), api.Word{})
	want(t, "MulMod", word.MulMod(top, top, top), api.Word{})
	want(t, "MulMod", word.MulMod(top, top, power(256, -2)), api.Word{1})
	want(t, "MulMod", word.MulMod(least, api.Word{2}, top), api.Word{1})
	want(t, "MulMod", word.MulMod(top, top, api.Word{1}), api.Word{})
}

// P2.12
func TestModuloIsLeft(t *testing.T) {
	triples(10000, func(x, y, n api.Word) {
		if n == (api.Word{}) {
			return
		}
		rest := word.MulMod(x, y, n)
		product := word.Wide(x, y)
		multiple := new(big.Int).Sub(wide(product[:]), number(rest))
		if word.Cmp(rest, n) >= 0 || multiple.Mod(multiple, number(n)).Sign() != 0 {
			t.Fatalf("MulMod(%x, %x, %x): %x", x, y, n, rest)
		}
		want(t, "AddMod", word.AddMod(x, y, n), word.AddMod(word.Mod(x, n), word.Mod(y, n), n), x, y, n)
	})
}

// P2.4
func TestPowers(t *testing.T) {
	pairs(2000, func(x, y api.Word) {
		want(t, "Exp", word.Exp(x, y), of(new(big.Int).Exp(number(x), number(y), whole)), x, y)
	})
	words(200, func(x api.Word) {
		want(t, "Exp", word.Exp(x, api.Word{}), api.Word{1}, x)
		want(t, "Exp", word.Exp(x, api.Word{1}), x, x)
		want(t, "Exp", word.Exp(x, api.Word{3}), word.Mul(x, word.Mul(x, x)), x)
	})
	want(t, "Exp", word.Exp(api.Word{}, api.Word{}), api.Word{1})
	want(t, "Exp", word.Exp(api.Word{}, top), api.Word{})
	want(t, "Exp", word.Exp(api.Word{2}, api.Word{255}), least)
	want(t, "Exp", word.Exp(api.Word{2}, api.Word{256}), api.Word{})
	want(t, "Exp", word.Exp(top, top), top)
	want(t, "Exp", word.Exp(top, power(256, -2)), api.Word{1})
}

// P2.13
func TestPowersOfSums(t *testing.T) {
	s := source{at: 7}
	for range 500 {
		x, y, z := s.word(), s.word(), s.word()
		if sum, over := word.Carry(y, z); !over {
			want(t, "Exp", word.Exp(x, sum), word.Mul(word.Exp(x, y), word.Exp(x, z)), x, y, z)
		}
		y[3] &= 1<<63 - 1
		want(t, "Exp", word.Exp(x, word.Add(y, y)), word.Exp(word.Mul(x, x), y), x, y)
	}
}
