package pre_test

import (
	"testing"

	"cairn/api"
)

// P16.2: what costs the same with any input.
func TestFixedCosts(t *testing.T) {
	for _, long := range []int{0, 1, 31, 32, 33, 63, 64, 65, 96, 127, 128, 129, 192, 213, 1000, mostMemory} {
		for _, b := range []byte{0, 1, 0xff} {
			input := bytesOf(long, b)
			wantCost(t, "fixed", 1, input, 3000, api.OK)
			wantCost(t, "fixed", 6, input, 150, api.OK)
			wantCost(t, "fixed", 7, input, 6000, api.OK)
			wantCost(t, "fixed", 10, input, 50000, api.OK)
		}
	}
}

// P16.2: what costs by words.
func TestCostsByWord(t *testing.T) {
	for _, c := range []struct {
		long  int
		words uint64
	}{{0, 0}, {1, 1}, {31, 1}, {32, 1}, {33, 2}, {64, 2}, {65, 3}, {320, 10}, {321, 11}, {mostMemory - 32, 262143}, {mostMemory - 31, 262144}, {mostMemory, 262144}} {
		input := noughts(c.long)
		wantCost(t, "words", 2, input, 60+12*c.words, api.OK)
		wantCost(t, "words", 3, input, 600+120*c.words, api.OK)
		wantCost(t, "words", 4, input, 15+3*c.words, api.OK)
	}
}

// P16.2: what costs by pairs.
func TestCostsByPair(t *testing.T) {
	for _, c := range []struct {
		long int
		cost uint64
	}{{0, 45000}, {1, 45000}, {191, 45000}, {192, 79000}, {193, 79000}, {383, 79000}, {384, 113000}, {385, 113000}, {1920, 385000}, {mostMemory, 45000 + 34000*43690}} {
		wantCost(t, "pairs", 8, noughts(c.long), c.cost, api.OK)
		wantCost(t, "pairs", 8, bytesOf(c.long, 0xff), c.cost, api.OK)
	}
}

// P16.2: what costs by rounds.
func TestCostsByRound(t *testing.T) {
	for _, c := range []struct {
		first []byte
		cost  uint64
	}{
		{nil, 0}, {[]byte{0, 0, 0, 1}, 1}, {[]byte{0, 0, 0, 12}, 12}, {[]byte{0, 0, 1, 0}, 256}, {[]byte{0, 1, 0, 0}, 65536},
		{[]byte{1, 0, 0, 0}, 1 << 24}, {[]byte{1, 2, 3, 4}, 0x01020304}, {[]byte{0xff, 0xff, 0xff, 0xff}, 1<<32 - 1},
		{[]byte{0, 0, 0, 0, 0xff}, 0}, {[]byte{0x80, 0, 0, 0, 0xff}, 1 << 31},
	} {
		for last := range byte(4) {
			input := padded(c.first, 213)
			input[212] = last
			wantCost(t, "rounds", 9, input, c.cost, api.OK)
			for _, long := range []int{0, 3, 4, 5, 212} {
				wantCost(t, "too short", 9, input[:long], 0, api.OK)
			}
			wantCost(t, "too long", 9, append(input, 0), 0, api.OK)
			wantCost(t, "twice", 9, join(input, input), 0, api.OK)
		}
	}
}
