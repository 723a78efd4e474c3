package pre_test

import (
	"bytes"
	"math/big"
	"testing"

	"cairn/api"
	"cairn/pre"
)

// wantModExp holds ModExp against whole numbers of any size, and the contract 5, too.
func wantModExp(t *testing.T, name string, base, exp, mod []byte) {
	t.Helper()
	should := modelModExp(base, exp, mod)
	if out := pre.ModExp(base, exp, mod); !bytes.Equal(out, should) {
		t.Fatalf("%s: ModExp of %x, %x, %x: %x, not %x", name, head(base), head(exp), head(mod), head(out), head(should))
	}
	input := sized(int64(len(base)), int64(len(exp)), int64(len(mod)), join(base, exp, mod)...)
	if out, e := pre.Run(5, input); e != api.OK || !bytes.Equal(out, should) {
		t.Fatalf("%s: Run of %x: %x, %d, not %x", name, head(input), head(out), e, head(should))
	}
}

// P16.5: all small numbers.
func TestSmallPowers(t *testing.T) {
	for base := range byte(12) {
		for exp := range byte(12) {
			for mod := range byte(20) {
				wantModExp(t, "small", []byte{base}, []byte{exp}, []byte{mod})
			}
		}
	}
}

// P16.5: modulo 0 and 1, numbers without bytes, 0 to the power 0.
func TestModExpEdges(t *testing.T) {
	s := source{at: 14}
	lists := [][]byte{nil, {0}, {1}, noughts(8), noughts(9), noughts(40), append(noughts(40), 1), {2}, {255}, s.octets(8), s.octets(33), bytesOf(16, 0xff)}
	for _, base := range lists {
		for _, exp := range lists {
			for _, mod := range lists {
				wantModExp(t, "edges", base, exp, mod)
			}
		}
	}
	for _, c := range []struct {
		name                   string
		base, exp, mod, should []byte
	}{
		{"modulo 0", []byte{3}, []byte{5}, []byte{0}, []byte{0}},
		{"modulo 0, of three bytes", []byte{3}, []byte{5}, noughts(3), noughts(3)},
		{"modulo 1", []byte{3}, []byte{5}, []byte{1}, []byte{0}},
		{"modulo 1, of ten bytes", []byte{3}, []byte{5}, append(noughts(9), 1), noughts(10)},
		{"modulo 1, to the power 0", []byte{3}, []byte{0}, []byte{1}, []byte{0}},
		{"modulo 1, 0 to the power 0", nil, nil, []byte{1}, []byte{0}},
		{"modulo 0, 0 to the power 0", nil, nil, []byte{0}, []byte{0}},
		{"0 to the power 0", []byte{0}, []byte{0}, []byte{0, 7}, []byte{0, 1}},
		{"0 to the power 0, without bytes", nil, nil, []byte{7}, []byte{1}},
		{"0 to the power 1", []byte{0}, []byte{1}, []byte{7}, []byte{0}},
		{"0 to a great power", nil, bytesOf(40, 0xff), []byte{7}, []byte{0}},
		{"any to the power 0", bytesOf(40, 0xff), noughts(40), []byte{7}, []byte{1}},
		{"an exponent without bytes", bytesOf(40, 0xff), nil, []byte{0, 2}, []byte{0, 1}},
		{"a modulus without bytes", []byte{3}, []byte{5}, nil, nil},
		{"an even modulus", []byte{3}, []byte{5}, []byte{100}, []byte{43}},
		{"a power of 2", []byte{3}, []byte{5}, []byte{64}, []byte{51}},
		{"noughts ahead", []byte{0, 0, 3}, []byte{0, 5}, []byte{0, 0, 0, 100}, []byte{0, 0, 0, 43}},
		{"a base that the modulus divides", []byte{21}, []byte{2}, []byte{7}, []byte{0}},
		{"a base of more bytes", []byte{1, 0}, []byte{1}, []byte{255}, []byte{1}},
		{"a multiple of the modulus and 2^64", join([]byte{1}, noughts(8)), []byte{2}, join([]byte{1}, noughts(8)), noughts(9)},
	} {
		if out := pre.ModExp(c.base, c.exp, c.mod); !bytes.Equal(out, c.should) {
			t.Errorf("%s: %x, not %x", c.name, out, c.should)
		}
		wantModExp(t, c.name, c.base, c.exp, c.mod)
	}
}

// P16.5: any numbers of all lengths, with limbs at which something turns; the exponents short.
func TestModExp(t *testing.T) {
	t.Parallel()
	s := source{at: 15}
	for range 20000 {
		wantModExp(t, "any", s.octets(s.below(50)), s.octets(s.below(5)), s.octets(s.below(50)))
	}
	for range 500 {
		wantModExp(t, "any", s.octets(s.below(200)), s.octets(s.below(100)), s.octets(s.below(200)))
	}
	for range 200 {
		wantModExp(t, "noughts ahead", join(noughts(s.below(20)), s.octets(s.below(20))), join(noughts(s.below(20)), s.octets(s.below(20))), join(noughts(s.below(20)), s.octets(s.below(20))))
	}
}

// P16.5: moduli of each number of bits, even and odd, and powers just below, at and above multiples of them.
func TestModExpBits(t *testing.T) {
	t.Parallel()
	for bits := uint(0); bits < 200; bits++ {
		for d := int64(-1); d <= 1; d++ {
			mod := power(bits, d).Bytes()
			for _, base := range []*big.Int{whole(2), power(bits, -1), power(bits, 0), power(bits, 1), power(2*bits, -1), power(bits+64, 0), power(3*bits, 5)} {
				for _, exp := range []byte{1, 2, 3, 64, 255} {
					wantModExp(t, "bits", base.Bytes(), []byte{exp}, mod)
				}
			}
		}
	}
}

// P16.5: numbers of MaxPart bytes, and of more.
func TestLongModExp(t *testing.T) {
	t.Parallel()
	s := source{at: 16}
	wantModExp(t, "a long base", s.octets(mostPart), []byte{3}, s.octets(40))
	wantModExp(t, "a long modulus", s.octets(40), []byte{1, 3}, s.octets(mostPart))
	wantModExp(t, "a long exponent", s.octets(10), s.octets(mostPart), s.octets(10))
	wantModExp(t, "all long, of noughts but the modulus' last byte", noughts(mostPart), noughts(mostPart), append(noughts(mostPart-1), 7))
	wantModExp(t, "long numbers to the power 1", s.octets(8000), []byte{1}, s.octets(4000))
	long := s.octets(mostPart + 100)
	should := modelModExp(long, []byte{5}, []byte{1, 1})
	if out := pre.ModExp(long, []byte{5}, []byte{1, 1}); !bytes.Equal(out, should) {
		t.Errorf("more than MaxPart: %x, not %x", out, should)
	}
}

// P16.3: what is known elsewhere of the contract 5 (EIP-198).
func TestKnownPowers(t *testing.T) {
	fermat := "fffffffffffffffffffffffffffffffffffffffffffffffffffffffefffffc2e" + "fffffffffffffffffffffffffffffffffffffffffffffffffffffffefffffc2f"
	wantRun(t, "3 to the power p - 1", 5, sized(1, 32, 32, join([]byte{3}, octets(fermat))...), word32(whole(1)), api.OK)
	wantRun(t, "0 to the power p - 1", 5, sized(0, 32, 32, octets(fermat)...), noughts(32), api.OK)
	wantCost(t, "3 to the power p - 1", 5, sized(1, 32, 32, join([]byte{3}, octets(fermat))...), 1360, api.OK)
	// 3 to the power 0xffff, of what is cut off (2^255), and with more behind.
	cut := join(sized(1, 2, 32, 3, 0xff, 0xff, 0x80))
	should := octets("3b01b01ac41f2d6e917c6d6a221ce793802469026d9ab7578fa2e79e4da6aaab")
	wantRun(t, "a modulus that is cut off", 5, cut, should, api.OK)
	wantRun(t, "more behind", 5, join(cut, noughts(31), []byte{7, 7}), should, api.OK)
}

// P16.3: input that ends at each place within the lengths, the base, the exponent and the modulus.
func TestPowerInput(t *testing.T) {
	s := source{at: 17}
	input := sized(11, 5, 20, s.octets(60)...)
	for n := range input {
		if n < 96 {
			// A length that is cut off is 0, or 256 times as much and more.
			wantModel(t, "within the lengths", 5, input[:n])
			continue
		}
		wantModel(t, "cut off", 5, input[:n])
	}
	for range 1000 {
		lengths := sized(int64(s.below(40)), int64(s.below(40)), int64(s.below(40)))
		wantModel(t, "any lengths", 5, join(lengths, s.octets(s.below(120))))
	}
}
