package word_test

import (
	"strings"
	"testing"

	"cairn/api"
	"cairn/word"
)

const (
	mostDec = "115792089237316195423570985008687907853269984665640564039457584007913129639935" // 2^256 - 1
	overDec = "115792089237316195423570985008687907853269984665640564039457584007913129639936"
)

// P2.9
func TestTexts(t *testing.T) {
	for _, c := range []struct {
		x        api.Word
		hex, dec string
	}{
		{api.Word{}, "0x0", "0"},
		{api.Word{1}, "0x1", "1"},
		{api.Word{9}, "0x9", "9"},
		{api.Word{10}, "0xa", "10"},
		{api.Word{15}, "0xf", "15"},
		{api.Word{16}, "0x10", "16"},
		{api.Word{100}, "0x64", "100"},
		{api.Word{0xabcdef}, "0xabcdef", "11259375"},
		{api.Word{0, 1}, "0x10000000000000000", "18446744073709551616"},
		{least, "0x8" + strings.Repeat("0", 63), "57896044618658097711785492504343953926634992332820282019728792003956564819968"},
		{top, "0x" + strings.Repeat("f", 64), mostDec},
	} {
		if s := word.Hex(c.x); s != c.hex {
			t.Errorf("Hex(%x): %s", c.x, s)
		}
		if s := word.Dec(c.x); s != c.dec {
			t.Errorf("Dec(%x): %s", c.x, s)
		}
	}
	words(5000, func(x api.Word) {
		if s := word.Hex(x); s != "0x"+number(x).Text(16) {
			t.Fatalf("Hex(%x): %s", x, s)
		}
		if s := word.Dec(x); s != number(x).Text(10) {
			t.Fatalf("Dec(%x): %s", x, s)
		}
	})
}

// P2.9
func TestParse(t *testing.T) {
	for _, c := range []struct {
		s string
		x api.Word
	}{
		{"0", api.Word{}}, {"7", api.Word{7}}, {"10", api.Word{10}}, {"9876543210", api.Word{9876543210}},
		{"18446744073709551615", api.Word{1<<64 - 1}}, {"18446744073709551616", api.Word{0, 1}},
		{mostDec, top},
		{"0x0", api.Word{}}, {"0x00", api.Word{}}, {"0x007", api.Word{7}}, {"0xabcdef", api.Word{0xabcdef}}, {"0xABCDEF", api.Word{0xabcdef}}, {"0xaBcDeF0123456789", api.Word{0xabcdef0123456789}},
		{"0x" + strings.Repeat("0", 64), api.Word{}},
		{"0x" + strings.Repeat("0", 63) + "1", api.Word{1}},
		{"0x" + strings.Repeat("f", 64), top}, {"0x" + strings.Repeat("F", 64), top},
		{"0x8" + strings.Repeat("0", 63), least},
	} {
		x, e := word.Parse(c.s)
		wantWord(t, "Parse", c.s, x, e, c.x, api.OK)
	}
}

// P2.9
func TestParseRefuses(t *testing.T) {
	for _, s := range []string{
		"", " ", "x", "0x", "0X1", "0X", "x1", "00", "01", "007", "00x1", "-1", "+1", "-0", " 1", "1 ", "1_000", "1.0", "1e3", "0b1", "0o7",
		"a", "f", "1a", "0xg", "0xG", "0x 1", "0x-1", "0x+1", "0x0x1", "0x1x", "1x", "0x1\x00", "\x001", "1\n", "٣", "0x٣", "1\xff",
		"0x@", "0x`", "0x/", "0x:", "/", ":",
		overDec, strings.Repeat("9", 78), "2" + strings.Repeat("0", 77), "1" + strings.Repeat("0", 78), strings.Repeat("9", 79), strings.Repeat("1", 80),
		strings.Repeat("0", 78), strings.Repeat("0", 80), "0" + mostDec,
		"0x1" + strings.Repeat("0", 64), "0x" + strings.Repeat("0", 65), "0x" + strings.Repeat("0", 64) + "1", "0x" + strings.Repeat("f", 65),
		"0x" + strings.Repeat("0", 78), strings.Repeat("z", 80),
	} {
		x, e := word.Parse(s)
		wantWord(t, "Parse", s, x, e, api.Word{}, api.ErrWord)
	}
	for _, s := range []string{strings.Repeat("1", 81), strings.Repeat("0", 81), "0x" + strings.Repeat("0", 79), strings.Repeat("z", 81), strings.Repeat(" ", 1000)} {
		x, e := word.Parse(s)
		wantWord(t, "Parse", s, x, e, api.Word{}, api.ErrLong)
	}
}

// P2.9: every byte, alone, behind 0x, and behind a digit.
func TestParseEveryByte(t *testing.T) {
	for c := range 256 {
		b := string([]byte{byte(c)})
		dec := strings.Index("0123456789", b)
		hex := strings.Index("0123456789abcdef", b)
		if hex < 0 {
			hex = strings.Index("..........ABCDEF", b)
			if c == '.' {
				hex = -1
			}
		}
		for _, p := range []struct {
			s   string
			n   uint64
			may bool
		}{{b, uint64(dec), dec >= 0}, {"1" + b, uint64(10 + dec), dec >= 0}, {"0x" + b, uint64(hex), hex >= 0}, {"0x1" + b, uint64(16 + hex), hex >= 0}} {
			x, e := word.Parse(p.s)
			if p.may {
				wantWord(t, "Parse", p.s, x, e, api.Word{p.n}, api.OK)
			} else {
				wantWord(t, "Parse", p.s, x, e, api.Word{}, api.ErrWord)
			}
		}
	}
}
