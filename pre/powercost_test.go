package pre_test

import (
	"math/big"
	"testing"

	"cairn/api"
)

// asked is an input of the contract 5: three lengths, and what is behind them.
func asked(base, exp, mod *big.Int, rest ...byte) []byte { return join(word32s(base, exp, mod), rest) }

// sized is asked of lengths that are small.
func sized(base, exp, mod int64, rest ...byte) []byte {
	return asked(whole(base), whole(exp), whole(mod), rest...)
}

// P16.2: base and modulus without bytes cost 200, whatever the exponent.
func TestPowerOfNoBytes(t *testing.T) {
	for _, exp := range []*big.Int{
		whole(0), whole(1), whole(32), whole(33), whole(mostPart), whole(mostPart + 1), power(32, 0), power(63, 0), power(64, -1), power(64, 0), power(255, 0), power(256, -1),
	} {
		for _, rest := range [][]byte{nil, {1}, bytesOf(100, 0xff)} {
			input := asked(whole(0), exp, whole(0), rest...)
			wantCost(t, "no bytes", 5, input, 200, api.OK)
			wantRun(t, "no bytes", 5, input, nil, api.OK)
		}
	}
}

// P16.2: lengths of MaxPart, and above it: each of base, exponent and modulus alone.
func TestPowerLengths(t *testing.T) {
	nought, one := whole(0), whole(1)
	for _, much := range []*big.Int{
		whole(mostPart + 1), whole(2 * mostPart), power(31, 0), power(32, 0), power(32, 5), power(63, 0), power(64, -1), power(64, 0), power(64, 1),
		power(65, 0), power(128, 0), power(192, 7), power(255, 0), power(256, -1), power(256, -mostPart),
	} {
		for _, input := range [][]byte{
			asked(much, nought, nought), asked(nought, nought, much), asked(one, much, nought), asked(nought, much, one),
			asked(much, one, one), asked(one, much, one), asked(one, one, much), asked(much, much, much), asked(nought, much, much), asked(much, much, nought),
			asked(whole(mostPart), whole(mostPart), much), asked(much, whole(mostPart), whole(mostPart)), asked(whole(mostPart), much, whole(mostPart)),
		} {
			wantCost(t, "too long", 5, input, 0, api.ErrGas)
			wantCost(t, "too long", 5, append(input, bytesOf(100, 0xff)...), 0, api.ErrGas)
			wantCall(t, "too long", 5, input, 0, nil, 0, api.ErrGas)
		}
	}
	// The square of MaxPart / 8 is 67108864.
	wantCost(t, "base", 5, sized(mostPart, 0, 0), 22369621, api.OK)
	wantCost(t, "modulus", 5, sized(0, 0, mostPart), 22369621, api.OK)
	wantCost(t, "base and modulus", 5, sized(mostPart, 0, mostPart), 22369621, api.OK)
	wantCost(t, "exponent", 5, sized(1, mostPart, 0), 8*(mostPart-32)/3, api.OK)
	wantCost(t, "exponent", 5, sized(0, mostPart, 1), 8*(mostPart-32)/3, api.OK)
	wantCost(t, "all, of noughts", 5, sized(mostPart, mostPart, mostPart), 67108864*8*(mostPart-32)/3, api.OK)
	input := join(sized(mostPart, mostPart, mostPart), bytesOf(mostPart+32, 0xff))
	wantCost(t, "all", 5, input, 67108864*(255+8*(mostPart-32))/3, api.OK)
}

// P16.2: the eighth of the longer one of base and modulus, rounded up.
func TestPowerEighths(t *testing.T) {
	for _, c := range []struct {
		long, limbs int64
	}{{1, 1}, {7, 1}, {8, 1}, {9, 2}, {15, 2}, {16, 2}, {17, 3}, {32, 4}, {33, 5}, {64, 8}, {65, 9}, {1023, 128}, {1024, 128}, {1025, 129}, {65528, 8191}, {65529, 8192}} {
		// 1533 is 3 times 511: bits of the first 32 bytes less 1, and 8 a byte behind.
		for _, other := range []int64{0, 1, c.long / 2, c.long} {
			exp := bytesOf(64, 0xff)
			should := uint64(c.limbs * c.limbs * 511 / 3)
			should = max(should, 200)
			wantCost(t, "base", 5, sized(c.long, 64, other, join(noughts(int(c.long)), exp)...), should, api.OK)
			wantCost(t, "modulus", 5, sized(other, 64, c.long, join(noughts(int(other)), exp)...), should, api.OK)
		}
	}
}

// P16.2: a third, rounded down, and what would cost less than 200.
func TestPowerLeast(t *testing.T) {
	for _, c := range []struct {
		exp  int64
		head byte
		cost uint64
	}{
		// Of one limb: k is 8 (exp - 32) and 248 for a first byte of 1, and 7 more at most.
		{32, 1, 200}, {32, 0xff, 200}, {75, 1, 200}, {76, 1, 200}, {76, 4, 200}, {76, 8, 201}, {76, 0x40, 202}, {76, 0x80, 202}, {77, 1, 202}, {77, 4, 203},
	} {
		wantCost(t, "about 200", 5, sized(1, c.exp, 1, 0, c.head), c.cost, api.OK)
	}
	// 15 limbs are 225, a third of it 75; 25 are 625, a third 208.33.
	wantCost(t, "15 limbs", 5, sized(120, 1, 120), 200, api.OK)
	wantCost(t, "24 limbs", 5, sized(192, 1, 192), 200, api.OK)
	wantCost(t, "25 limbs", 5, sized(200, 1, 200), 208, api.OK)
	wantCost(t, "26 limbs", 5, sized(208, 1, 208), 225, api.OK)
	// 601 and 602 are no multiples of 3: 200 both.
	wantCost(t, "600", 5, sized(16, 32, 16, join(noughts(16), word32(power(150, 0)))...), 200, api.OK)
	wantCost(t, "604", 5, sized(16, 32, 16, join(noughts(16), word32(power(151, 0)))...), 201, api.OK)
}

// P16.2: exponents of 0, 1, 31, 32, 33 bytes and more, with first bytes of 0, of one limb squared times 3.
func TestPowerExponents(t *testing.T) {
	const base = 200 // 25 limbs, 625
	cost := func(k int64) uint64 { return uint64(625 * k / 3) }
	for _, c := range []struct {
		name string
		exp  []byte
		k    int64
	}{
		{"no bytes", nil, 1},
		{"0", []byte{0}, 1}, {"1", []byte{1}, 1}, {"2", []byte{2}, 1}, {"3", []byte{3}, 1}, {"4", []byte{4}, 2}, {"7", []byte{7}, 2}, {"8", []byte{8}, 3}, {"255", []byte{255}, 7},
		{"two bytes", []byte{1, 0}, 8}, {"two bytes, the first 0", []byte{0, 255}, 7},
		{"31 bytes", bytesOf(31, 0xff), 247}, {"31 bytes of 0", noughts(31), 1}, {"31 bytes, the last 1", append(noughts(30), 1), 1}, {"31 bytes, the last 9", append(noughts(30), 9), 3},
		{"32 bytes", bytesOf(32, 0xff), 255}, {"32 bytes of 0", noughts(32), 1}, {"32 bytes, the last 1", append(noughts(31), 1), 1}, {"32 bytes, the first 1", append([]byte{1}, noughts(31)...), 248},
		{"33 bytes", bytesOf(33, 0xff), 263}, {"33 bytes of 0", noughts(33), 8}, {"33 bytes, the last 255", append(noughts(32), 255), 8},
		{"33 bytes, the last of the first 1", append(noughts(31), 1, 255), 8}, {"33 bytes, the last of the first 2", append(noughts(31), 2, 0), 9},
		{"34 bytes of 0", noughts(34), 16}, {"64 bytes", bytesOf(64, 0xff), 511}, {"64 bytes, half of them 0", append(noughts(32), bytesOf(32, 0xff)...), 256},
		{"1000 bytes", append([]byte{0x80}, noughts(999)...), 255 + 8*968},
	} {
		input := sized(base, int64(len(c.exp)), 1, join(bytesOf(base, 0xff), c.exp, bytesOf(40, 0xff))...)
		wantCost(t, c.name, 5, input, cost(c.k), api.OK)
		// What is taken begins behind the base, however long that is.
		input = sized(0, int64(len(c.exp)), base, join(c.exp, bytesOf(40, 0xff))...)
		wantCost(t, c.name+", no base", 5, input, cost(c.k), api.OK)
		input = sized(base, int64(len(c.exp)), base, join(noughts(base), c.exp)...)
		wantCost(t, c.name+", at the end", 5, input, cost(c.k), api.OK)
	}
}

// P16.2: input that ends within the exponent, ahead of it, or within the lengths.
func TestPowerCutOff(t *testing.T) {
	const base = 200
	cost := func(k int64) uint64 { return uint64(625 * k / 3) }
	whole := sized(base, 40, base, join(bytesOf(base, 0xff), bytesOf(40, 0xff), bytesOf(base, 0xff))...)
	for n := range 41 {
		// Of n bytes that are there the highest bit stands 256 bits above the end of the first 32.
		k := int64(255 + 8*8)
		if n == 0 {
			k = 8 * 8
		}
		wantCost(t, "within the exponent", 5, whole[:96+base+n], cost(k), api.OK)
	}
	for n := 96; n < 96+base; n++ {
		wantCost(t, "within the base", 5, whole[:n], cost(8*8), api.OK)
	}
	one := sized(base, 40, base, join(bytesOf(base, 0xff), []byte{0, 1, 0xff})...)
	wantCost(t, "two bytes", 5, one[:96+base+2], cost(240+64), api.OK)
	wantCost(t, "one byte, a nought", 5, one[:96+base+1], cost(64), api.OK)
	for n := 64; n < 96; n++ {
		// The modulus' length is cut off: it has no bytes, or many more than the last byte says.
		wantModel(t, "within the lengths", 5, whole[:n])
	}
	wantCost(t, "lengths of base and exponent alone", 5, whole[:64], cost(8*8), api.OK)
	wantCost(t, "the base's length alone", 5, whole[:32], cost(1), api.OK)
	wantCost(t, "a length whose last byte is missing", 5, whole[:31], 200, api.OK)
	wantCost(t, "a length of 1, cut off", 5, append(noughts(30), 1), 1024*1/3, api.OK)
	wantCost(t, "a length of 257, cut off", 5, append(noughts(29), 1, 1), 0, api.ErrGas)
}

// P16.2: any lengths, exponents of any first bytes, and any ends, held against the model.
func TestPowerCosts(t *testing.T) {
	s := source{at: 2}
	for range 5000 {
		long := func() int64 {
			if n := s.below(9); n < 8 {
				return int64(s.below([]int{1, 2, 9, 35, 70, 300, 3000, mostPart + 3}[n]))
			}
			return int64(mostPart - 1 + s.below(3))
		}
		base, exp, mod := long(), long(), long()
		input := sized(base, exp, mod, join(noughts(int(min(base, 300))), noughts(s.below(40)), s.octets(s.below(60)))...)
		if s.below(3) == 0 {
			input = input[:s.below(len(input)+1)]
		}
		cost, e := modelCost(5, input)
		wantCost(t, "any", 5, input, cost, e)
	}
}
