package word_test

import (
	"math/big"
	"testing"

	"cairn/api"
	"cairn/word"
)

// P2.6
func TestOrder(t *testing.T) {
	pairs(20000, func(x, y api.Word) {
		if c := word.Cmp(x, y); c != number(x).Cmp(number(y)) {
			t.Fatalf("Cmp(%x, %x): %d", x, y, c)
		}
		if c := word.SCmp(x, y); c != signed(x).Cmp(signed(y)) {
			t.Fatalf("SCmp(%x, %x): %d", x, y, c)
		}
	})
}

// P2.6
func TestOrderOfLimbs(t *testing.T) {
	for i := range 4 {
		var x, y api.Word
		x[i] = 1
		for j := range i {
			y[j] = 1<<64 - 1
		}
		if word.Cmp(x, y) != 1 || word.Cmp(y, x) != -1 || word.Cmp(x, x) != 0 {
			t.Error(i)
		}
	}
	if word.SCmp(least, power(255, -1)) != -1 || word.SCmp(api.Word{}, top) != 1 || word.SCmp(neg(2), neg(1)) != -1 || word.SCmp(least, least) != 0 {
		t.Error("SCmp")
	}
}

// P2.6
func TestBitByBit(t *testing.T) {
	pairs(5000, func(x, y api.Word) {
		want(t, "And", word.And(x, y), of(new(big.Int).And(number(x), number(y))), x, y)
		want(t, "Or", word.Or(x, y), of(new(big.Int).Or(number(x), number(y))), x, y)
		want(t, "Xor", word.Xor(x, y), of(new(big.Int).Xor(number(x), number(y))), x, y)
		want(t, "Not", word.Not(x), of(new(big.Int).Not(number(x))), x)
	})
	x, y := api.Word{12, 12, 12, 12}, api.Word{10, 10, 10, 10}
	want(t, "And", word.And(x, y), api.Word{8, 8, 8, 8})
	want(t, "Or", word.Or(x, y), api.Word{14, 14, 14, 14})
	want(t, "Xor", word.Xor(x, y), api.Word{6, 6, 6, 6})
	want(t, "Not", word.Not(api.Word{}), top)
}

// P2.5
func TestSignExtend(t *testing.T) {
	pairs(5000, func(k, x api.Word) {
		want(t, "SignExtend", word.SignExtend(k, x), extended(k, x), k, x)
	})
	words(200, func(x api.Word) {
		for k := range uint64(40) {
			want(t, "SignExtend", word.SignExtend(api.Word{k}, x), extended(api.Word{k}, x), api.Word{k}, x)
		}
	})
}

// extended is the lowest 8 (k + 1) bits of x, less 2^(8 (k + 1)) if the highest of them is set.
func extended(k, x api.Word) api.Word {
	if number(k).Cmp(big.NewInt(31)) >= 0 {
		return x
	}
	n := uint(8 * (k[0] + 1))
	end := new(big.Int).Lsh(one, n)
	low := new(big.Int).Mod(number(x), end)
	if low.Bit(int(n)-1) == 1 {
		low.Sub(low, end)
	}
	return of(low)
}

// P2.5: at the edges of a byte, and where k is 30, 31, 32 or beyond 2^64.
func TestSignExtendAtEdges(t *testing.T) {
	want(t, "SignExtend", word.SignExtend(api.Word{0}, api.Word{0xab80}), neg(128))
	want(t, "SignExtend", word.SignExtend(api.Word{0}, api.Word{0xab7f}), api.Word{127})
	want(t, "SignExtend", word.SignExtend(api.Word{1}, api.Word{0x8000}), neg(32768))
	want(t, "SignExtend", word.SignExtend(api.Word{1}, api.Word{0x18000 - 1}), api.Word{32767})
	want(t, "SignExtend", word.SignExtend(api.Word{7}, api.Word{1 << 63, 5, 5, 5}), api.Word{1 << 63, 1<<64 - 1, 1<<64 - 1, 1<<64 - 1})
	want(t, "SignExtend", word.SignExtend(api.Word{7}, api.Word{1, 5, 5, 5}), api.Word{1})
	want(t, "SignExtend", word.SignExtend(api.Word{30}, power(247, 0)), of(new(big.Int).Neg(number(power(247, 0)))))
	want(t, "SignExtend", word.SignExtend(api.Word{30}, power(248, 0)), api.Word{})
	for _, k := range []api.Word{{31}, {32}, {255}, {1<<64 - 1}, {0, 1}, {0, 0, 1}, {0, 0, 0, 1}, {1, 0, 0, 1}, least, top} {
		for _, x := range []api.Word{{255}, power(247, 0), power(248, 3), least, top} {
			want(t, "SignExtend", word.SignExtend(k, x), x, k, x)
		}
	}
}

// P2.16
func TestSigns(t *testing.T) {
	pairs(5000, func(x, y api.Word) {
		for k := range uint64(33) {
			once := word.SignExtend(api.Word{k}, x)
			want(t, "SignExtend", word.SignExtend(api.Word{k}, once), once, api.Word{k}, x)
		}
		if word.SCmp(x, y) != word.Cmp(word.Xor(x, least), word.Xor(y, least)) {
			t.Fatalf("SCmp(%x, %x): %d", x, y, word.SCmp(x, y))
		}
	})
}
