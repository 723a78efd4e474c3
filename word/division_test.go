package word_test

import (
	"math/big"
	"testing"

	"cairn/api"
	"cairn/word"
)

// P2.3
func TestDivision(t *testing.T) {
	pairs(100000, func(x, y api.Word) {
		if y == (api.Word{}) {
			return
		}
		quotient, rest := new(big.Int).DivMod(number(x), number(y), new(big.Int))
		want(t, "Div", word.Div(x, y), of(quotient), x, y)
		want(t, "Mod", word.Mod(x, y), of(rest), x, y)
	})
}

// P2.3
func TestSignedDivision(t *testing.T) {
	pairs(50000, func(x, y api.Word) {
		if y == (api.Word{}) {
			return
		}
		quotient, rest := new(big.Int).QuoRem(signed(x), signed(y), new(big.Int))
		want(t, "SDiv", word.SDiv(x, y), of(quotient), x, y)
		want(t, "SMod", word.SMod(x, y), of(rest), x, y)
	})
}

// P2.3
func TestDivisionByNought(t *testing.T) {
	words(1000, func(x api.Word) {
		want(t, "Div", word.Div(x, api.Word{}), api.Word{}, x)
		want(t, "Mod", word.Mod(x, api.Word{}), api.Word{}, x)
		want(t, "SDiv", word.SDiv(x, api.Word{}), api.Word{}, x)
		want(t, "SMod", word.SMod(x, api.Word{}), api.Word{}, x)
	})
}

// P2.3
func TestSignsOfQuotients(t *testing.T) {
	for _, c := range []struct{ x, y, quotient, rest int64 }{
		{7, 2, 3, 1}, {-7, 2, -3, -1}, {7, -2, -3, 1}, {-7, -2, 3, -1},
		{6, -3, -2, 0}, {-6, 3, -2, 0}, {2, 7, 0, 2}, {-2, 7, 0, -2}, {-2, -7, 0, -2}, {0, -7, 0, 0},
	} {
		x, y := neg(-c.x), neg(-c.y)
		want(t, "SDiv", word.SDiv(x, y), neg(-c.quotient), x, y)
		want(t, "SMod", word.SMod(x, y), neg(-c.rest), x, y)
	}
	want(t, "SDiv", word.SDiv(least, neg(1)), least)
	want(t, "SMod", word.SMod(least, neg(1)), api.Word{})
	want(t, "SDiv", word.SDiv(least, api.Word{1}), least)
	want(t, "SDiv", word.SDiv(least, least), api.Word{1})
	want(t, "SMod", word.SMod(power(255, -1), least), power(255, -1))
	want(t, "SMod", word.SMod(least, power(255, -1)), neg(1))
}

// P2.3: divisors of one to four limbs, and quotients whose limbs are first guessed too great.
func TestGuesses(t *testing.T) {
	full, high := uint64(1<<64-1), uint64(1<<63)
	for _, c := range []struct {
		why                  string
		x, y, quotient, rest api.Word
	}{
		{"one limb", api.Word{0, 1}, api.Word{3}, api.Word{full / 3}, api.Word{1}},
		{"one limb, the greatest", top, api.Word{full}, api.Word{1, 1, 1, 1}, api.Word{}},
		{"two limbs", top, api.Word{full, full}, api.Word{1, 0, 1}, api.Word{}},
		{"three limbs", top, api.Word{full, full, full}, api.Word{0, 1}, api.Word{full}},
		{"four limbs", top, power(256, -2), api.Word{1}, api.Word{1}},
		{"a greater divisor", power(256, -2), top, api.Word{}, power(256, -2)},
		{"a divisor of more limbs", power(128, -1), power(128, 0), api.Word{}, power(128, -1)},

		{"two limbs, one too great", api.Word{1, high, high - 1, 2}, api.Word{1, 1}, api.Word{2, high - 3, 2}, api.Word{full}},
		{"two limbs, two too great", api.Word{full - 1, high - 1, full - 1}, api.Word{full, high + 1}, api.Word{full - 10, 1}, api.Word{full - 12, 0x17}},
		{"two limbs, the same beginning", api.Word{high, 3, high - 1, high}, api.Word{1, 1}, api.Word{4, full, high - 1}, api.Word{high - 4}},
		{"two limbs, the same beginning, all left", api.Word{high, full - 1, 3, full - 1}, api.Word{high - 1, full - 1}, api.Word{high + 4, full}, api.Word{4, high>>1 + 4}},

		{"three limbs, one too great", api.Word{2, 1, full, 3}, api.Word{0, full, full}, api.Word{3}, api.Word{2, 4, full}},
		{"three limbs, two too great", api.Word{high + 1, full - 1, 0, full - 1}, api.Word{high - 1, full - 1, high + 1}, api.Word{full - 11, 1}, api.Word{high - 11, full - 17, 0x1b}},
		{"three limbs, one too great by the third alone", api.Word{high - 1, 2, 2, high + 1}, api.Word{high, 2, high + 1}, api.Word{full}, api.Word{full, high + 4, high}},
		{"three limbs, the same beginning", api.Word{full - 1, full, 1, 2}, api.Word{high + 1, 3, 2}, api.Word{full}, api.Word{high - 1, high + 2}},
		{"three limbs, the same beginning, all left", api.Word{high - 1, high, 2, 3}, api.Word{high + 1, 3, 3}, api.Word{full}, api.Word{0, 3, 2}},

		{"four limbs, one too great", api.Word{high, full, 3, high - 1}, api.Word{1, 2, 1, 1}, api.Word{high - 2}, api.Word{2, 3, high + 5}},
		{"four limbs, two too great", api.Word{high, high - 1, 1, full}, api.Word{0, full - 1, 3, 1}, api.Word{full - 4}, api.Word{high, high - 11, 0x17}},
		{"four limbs, one too great by the third alone", api.Word{high + 1, 3, high, high - 1}, api.Word{high + 1, 1, high, 1}, api.Word{0x5555555555555554}, api.Word{0x2aaaaaaaaaaaaaad, high + 5, high - 1, 1}},
	} {
		want(t, c.why+": Div", word.Div(c.x, c.y), c.quotient, c.x, c.y)
		want(t, c.why+": Mod", word.Mod(c.x, c.y), c.rest, c.x, c.y)
	}
}

// P2.3: what is just below, at, and just above a multiple of the divisor.
func TestDivisionAtMultiples(t *testing.T) {
	s := source{at: 5}
	for range 20000 {
		y, quotient := s.word(), s.word()
		if y == (api.Word{}) || new(big.Int).Mul(number(y), number(quotient)).Cmp(whole) >= 0 {
			continue
		}
		x := word.Mul(y, quotient)
		want(t, "Div", word.Div(x, y), quotient, x, y)
		want(t, "Mod", word.Mod(x, y), api.Word{}, x, y)
		if below, borrow := word.Borrow(x, api.Word{1}); !borrow {
			want(t, "Div", word.Div(below, y), word.Sub(quotient, api.Word{1}), below, y)
			want(t, "Mod", word.Mod(below, y), word.Sub(y, api.Word{1}), below, y)
		}
		if last, over := word.Carry(x, word.Sub(y, api.Word{1})); !over {
			want(t, "Div", word.Div(last, y), quotient, last, y)
			want(t, "Mod", word.Mod(last, y), word.Sub(y, api.Word{1}), last, y)
		}
	}
}

// P2.11
func TestDivisionIsUndone(t *testing.T) {
	pairs(20000, func(x, y api.Word) {
		if y == (api.Word{}) {
			return
		}
		quotient, rest := word.Div(x, y), word.Mod(x, y)
		want(t, "y * Div + Mod of", word.Add(word.Mul(y, quotient), rest), x, x, y)
		if word.Cmp(rest, y) >= 0 {
			t.Fatalf("Mod(%x, %x): %x", x, y, rest)
		}
		quotient, rest = word.SDiv(x, y), word.SMod(x, y)
		want(t, "y * SDiv + SMod of", word.Add(word.Mul(y, quotient), rest), x, x, y)
		if new(big.Int).Abs(signed(rest)).Cmp(new(big.Int).Abs(signed(y))) >= 0 {
			t.Fatalf("SMod(%x, %x): %x", x, y, rest)
		}
		if rest != (api.Word{}) && signed(rest).Sign() != signed(x).Sign() {
			t.Fatalf("SMod(%x, %x): %x", x, y, rest)
		}
	})
}
