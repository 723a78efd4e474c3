package word_test

import (
	"math/big"
	"testing"

	"cairn/api"
	"cairn/word"
)

// wantShifts holds all three shifts of x by n against the model, n below 2^20.
func wantShifts(t *testing.T, n uint64, x api.Word) {
	t.Helper()
	by := api.Word{n}
	want(t, "Shl", word.Shl(by, x), of(new(big.Int).Lsh(number(x), uint(n))), by, x)
	want(t, "Shr", word.Shr(by, x), of(new(big.Int).Rsh(number(x), uint(n))), by, x)
	want(t, "Sar", word.Sar(by, x), of(new(big.Int).Rsh(signed(x), uint(n))), by, x)
}

// P2.7
func TestShifts(t *testing.T) {
	words(100, func(x api.Word) {
		for n := range uint64(260) {
			wantShifts(t, n, x)
		}
		for _, n := range []uint64{319, 320, 511, 512, 1 << 16} {
			wantShifts(t, n, x)
		}
	})
}

// P2.7: by 256 and by words beyond 2^64.
func TestShiftsFar(t *testing.T) {
	for _, n := range []api.Word{{256}, {257}, {1 << 32}, {1 << 63}, {1<<64 - 1}, {0, 1}, {1, 1}, {0, 0, 1}, {8, 0, 1}, {0, 0, 0, 1}, {8, 0, 0, 1}, least, top} {
		words(20, func(x api.Word) {
			want(t, "Shl", word.Shl(n, x), api.Word{}, n, x)
			want(t, "Shr", word.Shr(n, x), api.Word{}, n, x)
			if signed(x).Sign() < 0 {
				want(t, "Sar", word.Sar(n, x), top, n, x)
			} else {
				want(t, "Sar", word.Sar(n, x), api.Word{}, n, x)
			}
		})
	}
}

// P2.7: by hand, without the model.
func TestShiftsByHand(t *testing.T) {
	x := api.Word{0x1111, 0x2222, 0x3333, 1<<63 | 0x4444}
	want(t, "Shl", word.Shl(api.Word{}, x), x)
	want(t, "Shr", word.Shr(api.Word{}, x), x)
	want(t, "Sar", word.Sar(api.Word{}, x), x)
	want(t, "Shl", word.Shl(api.Word{64}, x), api.Word{0, 0x1111, 0x2222, 0x3333})
	want(t, "Shr", word.Shr(api.Word{64}, x), api.Word{0x2222, 0x3333, 1<<63 | 0x4444, 0})
	want(t, "Sar", word.Sar(api.Word{64}, x), api.Word{0x2222, 0x3333, 1<<63 | 0x4444, 1<<64 - 1})
	want(t, "Shl", word.Shl(api.Word{68}, x), api.Word{0, 0x11110, 0x22220, 0x33330})
	want(t, "Shr", word.Shr(api.Word{255}, x), api.Word{1})
	want(t, "Sar", word.Sar(api.Word{1}, neg(1)), neg(1))
	want(t, "Sar", word.Sar(api.Word{1}, neg(3)), neg(2))
	want(t, "Sar", word.Sar(api.Word{255}, power(255, -1)), api.Word{})
}

// P2.14
func TestShiftsArePowers(t *testing.T) {
	words(100, func(x api.Word) {
		for n := range uint64(256) {
			by, factor := api.Word{n}, word.Exp(api.Word{2}, api.Word{n})
			want(t, "Shl", word.Shl(by, x), word.Mul(x, factor), by, x)
			want(t, "Shr", word.Shr(by, x), word.Div(x, factor), by, x)
			low := word.Sub(factor, api.Word{1})
			want(t, "Shl of Shr", word.Shl(by, word.Shr(by, x)), word.And(x, word.Not(low)), by, x)
			if n > 0 {
				low = word.Sub(word.Exp(api.Word{2}, api.Word{256 - n}), api.Word{1})
				want(t, "Shr of Shl", word.Shr(by, word.Shl(by, x)), word.And(x, low), by, x)
			}
			if word.SCmp(x, api.Word{}) < 0 {
				want(t, "Sar", word.Sar(by, x), word.Not(word.Shr(by, word.Not(x))), by, x)
			} else {
				want(t, "Sar", word.Sar(by, x), word.Shr(by, x), by, x)
			}
		}
	})
}

// P2.7
func TestBits(t *testing.T) {
	if n := word.Bits(api.Word{}); n != 0 {
		t.Error(n)
	}
	for i := range uint(256) {
		if n := word.Bits(power(i, 0)); n != int(i)+1 {
			t.Error(i, n)
		}
		if n := word.Bits(power(i, -1)); n != int(i) {
			t.Error(i, n)
		}
	}
	words(5000, func(x api.Word) {
		if n := word.Bits(x); n != number(x).BitLen() {
			t.Fatalf("Bits(%x): %d", x, n)
		}
	})
}

// P2.7
func TestByte(t *testing.T) {
	var b [32]byte
	for i := range b {
		b[i] = byte(0xa0 + i)
	}
	x := of(new(big.Int).SetBytes(b[:]))
	for i := range uint64(32) {
		want(t, "Byte", word.Byte(api.Word{i}, x), api.Word{0xa0 + i}, api.Word{i}, x)
	}
	for _, i := range []api.Word{{32}, {33}, {64}, {255}, {256}, {1<<64 - 1}, {0, 1}, {1, 1}, {31, 0, 1}, {30, 0, 0, 1}, least, top} {
		want(t, "Byte", word.Byte(i, x), api.Word{}, i, x)
	}
	pairs(2000, func(i, x api.Word) {
		should := api.Word{}
		if n, ok := word.Small(i); ok && n < 32 {
			should = api.Word{uint64(word.Bytes(x)[n])}
		}
		want(t, "Byte", word.Byte(i, x), should, i, x)
	})
}
