package gas_test

import (
	"math/big"
	"testing"

	"cairn/api"
	"cairn/gas"
)

// sizes are sizes of a memory at which something turns.
func sizes() []uint64 {
	return []uint64{0, 1, 2, 31, 32, 33, 63, 64, 65, 704, 705, 724 * 32, 724*32 + 1, 1<<20 - 1, 1 << 20, mostMemory - 33, mostMemory - 32, mostMemory - 31, mostMemory - 1, mostMemory}
}

// P14.2
func TestWords(t *testing.T) {
	for _, c := range [][2]uint64{{0, 0}, {1, 1}, {31, 1}, {32, 1}, {33, 2}, {64, 2}, {65, 3}, {mostMemory, 262144}, {mostMemory + 1, 262145},
		{1<<63 + 1, 1<<58 + 1}, {1<<64 - 32, 1<<59 - 1}, {1<<64 - 31, 1 << 59}, {1<<64 - 1, 1 << 59}} {
		want(t, "Words", gas.Words(c[0]), c[1], c[0])
	}
	s := source{at: 1}
	for range 10000 {
		n := s.any()
		up := new(big.Int).Add(new(big.Int).SetUint64(n), big.NewInt(31))
		want(t, "Words", gas.Words(n), up.Div(up, big.NewInt(32)).Uint64(), n)
	}
}

// P14.2: costs worked out by hand.
func TestMemory(t *testing.T) {
	for _, c := range [][2]uint64{{0, 0}, {1, 3}, {31, 3}, {32, 3}, {33, 6}, {64, 6}, {65, 9}, {22 * 32, 66}, {23 * 32, 70}, {1024, 98}, {724 * 32, 3195},
		{1 << 20, 2195456}, {mostMemory - 32, 262143*3 + 134216704}, {mostMemory - 31, 135004160}, {mostMemory - 1, 135004160}, {mostMemory, 135004160},
		{mostMemory + 1, tooDear}, {mostMemory + 32, tooDear}, {1 << 32, tooDear}, {1 << 37, tooDear}, {1 << 63, tooDear}, {1<<64 - 1, tooDear}} {
		want(t, "Memory", gas.Memory(c[0]), c[1], c[0])
	}
}

// P14.2: every count of words.
func TestMemoryOfWords(t *testing.T) {
	for w := uint64(1); w <= mostMemory/32; w++ {
		should := 3*w + w*w/512
		want(t, "Memory", gas.Memory(32*w), should, 32*w)
		want(t, "Memory", gas.Memory(32*w-31), should, 32*w-31)
	}
}

// wantGrow holds Grow against what it should answer.
func wantGrow(t *testing.T, size uint64, at, long api.Word, size2, cost uint64, e api.Errno) {
	t.Helper()
	if s, c, got := gas.Grow(size, at, long); s != size2 || c != cost || got != e {
		t.Fatalf("Grow(%d, %d, %d): %d, %d, %d, not %d, %d, %d", size, at, long, s, c, got, size2, cost, e)
	}
}

// P14.2: who asks for nothing gets it at any place, of any size.
func TestGrowByNothing(t *testing.T) {
	places := append(huge(), api.Word{}, api.Word{1}, api.Word{33}, api.Word{mostMemory})
	for _, size := range append(sizes(), mostMemory+1, 1<<32, 1<<63, 1<<64-1) {
		for _, at := range places {
			wantGrow(t, size, at, api.Word{}, size, 0, api.OK)
		}
	}
}

// P14.2: results worked out by hand.
func TestGrow(t *testing.T) {
	for _, c := range [][5]uint64{ // size, at, long; size, cost
		{0, 0, 1, 32, 3},
		{0, 0, 32, 32, 3},
		{0, 0, 33, 64, 6},
		{0, 31, 1, 32, 3},
		{0, 32, 1, 64, 6},
		{32, 0, 32, 32, 0},
		{32, 31, 2, 64, 3},
		{64, 5, 10, 64, 0},
		{1024, 0, 1, 1024, 0},
		{33, 0, 33, 64, 0},
		{33, 0, 1, 33, 0},
		{33, 0, 64, 64, 0},
		{33, 0, 65, 96, 3},
		{70, 0, 65, 96, 0},
		{1, 0, 1, 32, 0},
		{704, 704, 1, 736, 4},
		{0, mostMemory - 1, 1, mostMemory, 135004160},
		{0, 0, mostMemory, mostMemory, 135004160},
		{0, 1, mostMemory - 1, mostMemory, 135004160},
		{mostMemory - 32, mostMemory - 1, 1, mostMemory, 1027},
		{mostMemory, mostMemory - 1, 1, mostMemory, 0},
		{mostMemory, 0, mostMemory, mostMemory, 0},
		{mostMemory - 1, 0, 1, mostMemory - 1, 0},
		{mostMemory - 1, 0, mostMemory, mostMemory, 0},
	} {
		wantGrow(t, c[0], api.Word{c[1]}, api.Word{c[2]}, c[3], c[4], api.OK)
	}
}

// P14.2: too much, at any size of the memory.
func TestGrowTooFar(t *testing.T) {
	for _, size := range sizes() {
		for _, x := range huge() {
			wantGrow(t, size, x, api.Word{1}, 0, 0, api.ErrGas)
			wantGrow(t, size, api.Word{}, x, 0, 0, api.ErrGas)
			for _, y := range huge() {
				wantGrow(t, size, x, y, 0, 0, api.ErrGas)
			}
		}
		for _, c := range [][2]api.Word{
			{{mostMemory}, {1}},
			{{1}, {mostMemory}},
			{{mostMemory}, {mostMemory}},
			{{mostMemory - 31}, {32}},
			{{mostMemory/2 + 1}, {mostMemory / 2}},
			{{1<<64 - 1}, {2}},                       // 1, were the carry lost
			{top, {2}},                               // 1, were it lost at the end
			{{0, 0, 0, 1 << 63}, {1, 0, 0, 1 << 63}}, // so here
			{{1, 1, 1, 1}, {1<<64 - 1, 1<<64 - 2, 1<<64 - 2, 1<<64 - 2}},
		} {
			wantGrow(t, size, c[0], c[1], 0, 0, api.ErrGas)
			wantGrow(t, size, c[1], c[0], 0, 0, api.ErrGas)
		}
	}
}

// P14.2: a memory that is too large already.
func TestGrowOfTooMuch(t *testing.T) {
	for _, size := range []uint64{mostMemory + 1, mostMemory + 32, 1 << 32, 1 << 63, 1<<64 - 1} {
		for _, at := range []uint64{0, 1, 32, mostMemory - 1, mostMemory} {
			wantGrow(t, size, api.Word{at}, api.Word{1}, 0, 0, api.ErrGas)
		}
	}
}

// P14.2: any sizes, places and lengths, held against whole numbers.
func TestGrowAny(t *testing.T) {
	s := source{at: 2}
	for range 20000 {
		size, at, long := s.any(), api.Word{s.any()}, api.Word{s.any()}
		if s.below(2) == 0 {
			size, at[0], long[0] = size%(mostMemory+2), at[0]%mostMemory, long[0]%mostMemory
		}
		if s.below(8) == 0 {
			at[s.below(4)], long[s.below(4)] = s.any(), s.any()
		}
		end := new(big.Int).Add(number(at), number(long))
		switch {
		case long == api.Word{}:
			wantGrow(t, size, at, long, size, 0, api.OK)
		case end.Cmp(big.NewInt(mostMemory)) > 0 || size > mostMemory:
			wantGrow(t, size, at, long, 0, 0, api.ErrGas)
		default:
			grown := max(size, (end.Uint64()+31)/32*32)
			wantGrow(t, size, at, long, grown, memory(grown)-memory(size), api.OK)
		}
	}
}

// memory is what a memory costs by the chapter's words.
func memory(size uint64) uint64 {
	w := (size + 31) / 32
	return 3*w + w*w/512
}
