package pre_test

import (
	"testing"

	"cairn/api"
	"cairn/pre"
)

// P16.1: all addresses whose first 19 bytes are 0.
func TestIs(t *testing.T) {
	for last := range 256 {
		n, is := pre.Is(api.Address{19: byte(last)})
		if should := last >= 1 && last <= 10; is != should || should && n != last || !should && n != 0 {
			t.Errorf("%d: %d, %v", last, n, is)
		}
	}
}

// P16.1: a bit that is not 0 in any of the first 19 bytes.
func TestIsFirstBytes(t *testing.T) {
	for last := range 12 {
		for at := range 19 {
			for bit := range 8 {
				a := api.Address{19: byte(last)}
				a[at] = 1 << bit
				if n, is := pre.Is(a); n != 0 || is {
					t.Errorf("%x: %d, %v", a, n, is)
				}
			}
		}
	}
	for n := range 256 {
		a := api.Address{0: byte(n)}
		if m, is := pre.Is(a); m != 0 || is {
			t.Errorf("%x: %d, %v", a, m, is)
		}
	}
}

// P16.2, P16.3, P16.4: numbers of no contract, ahead of what is wrong with the input.
func TestNone(t *testing.T) {
	for _, n := range []int{0, 11, 12, -1, -10, 255, 256 + 1, 1 << 32, 1<<32 + 5, 1<<63 - 1, -1 << 63} {
		for _, input := range [][]byte{nil, noughts(213), noughts(mostMemory), noughts(mostMemory + 1)} {
			wantCost(t, "none", n, input, 0, api.ErrNone)
			wantCall(t, "none", n, input, 0, nil, 0, api.ErrNone)
		}
	}
}

// P16.2, P16.3, P16.4: inputs of MaxMemory bytes, and of more.
func TestLong(t *testing.T) {
	long := noughts(mostMemory + 2)
	for n := 1; n <= 10; n++ {
		if _, e := pre.Cost(n, long[:mostMemory]); e != api.OK {
			t.Errorf("%d: %d", n, e)
		}
		for _, input := range [][]byte{long[:mostMemory+1], long} {
			wantCost(t, "long", n, input, 0, api.ErrLong)
			wantCall(t, "long", n, input, 0, nil, 0, api.ErrLong)
		}
	}
	// Also such whose lengths alone would be ErrGas.
	copy(long, bytesOf(96, 0xff))
	wantCost(t, "not so long", 5, long[:mostMemory], 0, api.ErrGas)
	wantCost(t, "long", 5, long[:mostMemory+1], 0, api.ErrLong)
}
