package pre_test

import (
	"bytes"
	"testing"

	"cairn/api"
	"cairn/pre"
)

// inputs are an input of each contract that it takes, by its number.
func inputs() [11][]byte {
	signed, _ := knownSigned()
	claim, _ := proven()
	return [11][]byte{
		1: signed, 2: []byte("abc"), 3: []byte("abc"), 4: []byte("abc"), 5: sized(3, 2, 9, bytesOf(14, 0x77)...), 6: join(times(3), times(4)),
		7: join(times(3), word32(whole(4))), 8: paired(2, 3, -6, 1), 9: piece(12, "abc", 1), 10: claim,
	}
}

// spoil writes into all that a list's memory has room for.
func spoil(b []byte) {
	for i := range b[:cap(b)] {
		b[:cap(b)][i] ^= 0x5a
	}
}

// P2: what is answered is new memory each time, and input is not changed.
func TestNewMemory(t *testing.T) {
	for n, input := range inputs() {
		if n == 0 {
			continue
		}
		was := bytes.Clone(input)
		cost, _ := pre.Cost(n, input)
		first := good(pre.Run(n, input))
		should := bytes.Clone(first)
		second := good(pre.Run(n, input))
		third, _, _ := pre.Call(n, input, cost)
		if len(first) == 0 {
			t.Errorf("%d: no bytes", n)
		}
		spoil(first)
		if !bytes.Equal(input, was) || !bytes.Equal(second, should) || !bytes.Equal(third, should) {
			t.Errorf("%d: shared", n)
		}
		spoil(third)
		if !bytes.Equal(input, was) || !bytes.Equal(second, should) {
			t.Errorf("%d: shared", n)
		}
		wantRun(t, "again", n, input, should, api.OK)
		spoil(input)
		if !bytes.Equal(second, should) {
			t.Errorf("%d: shares with input", n)
		}
	}
}

// P2: what lies behind an input's length is neither read nor written, however much of the input there is.
func TestBehindInput(t *testing.T) {
	for n, input := range inputs() {
		for long := range len(input) + 1 {
			if n == 0 || n > 7 && long%16 > 1 && len(input)-long > 2 {
				continue
			}
			roomy := join(input[:long], bytesOf(400, 0x77))
			was := bytes.Clone(roomy)
			alone, aloneE := pre.Run(n, bytes.Clone(input[:long]))
			cost, costE := pre.Cost(n, bytes.Clone(input[:long]))
			wantCost(t, "with room", n, roomy[:long], cost, costE)
			if out, e := pre.Run(n, roomy[:long]); !bytes.Equal(out, alone) || e != aloneE {
				t.Errorf("%d, %d bytes: %x, %d, not %x, %d", n, long, out, e, alone, aloneE)
			}
			if !bytes.Equal(roomy, was) {
				t.Errorf("%d, %d bytes: written", n, long)
			}
		}
	}
}

// P2: the numbers of ModExp are not changed, may share memory, and what lies behind them is neither read nor written.
func TestModExpMemory(t *testing.T) {
	s := source{at: 23}
	whole := s.octets(64)
	was := bytes.Clone(whole)
	for range 2000 {
		from, to := s.below(65), 0
		cut := func() []byte {
			from = s.below(65)
			to = from + s.below(65-from)
			return whole[from:to]
		}
		base, exp, mod := cut(), cut(), cut()
		should := modelModExp(base, exp[:min(4, len(exp))], mod)
		out := pre.ModExp(base, exp[:min(4, len(exp))], mod)
		if !bytes.Equal(out, should) {
			t.Fatalf("%x, %x, %x: %x, not %x", base, exp, mod, out, should)
		}
		spoil(out)
		if !bytes.Equal(whole, was) {
			t.Fatal("changed")
		}
	}
}

// P3: no bytes are no bytes, nil or not.
func TestNil(t *testing.T) {
	for n := 1; n <= 10; n++ {
		should, shouldE := pre.Run(n, nil)
		for _, input := range [][]byte{{}, make([]byte, 0, 400)} {
			wantRun(t, "empty", n, input, should, shouldE)
		}
	}
	for _, empty := range [][]byte{nil, {}, make([]byte, 0, 9)} {
		if out := pre.ModExp(empty, empty, []byte{9}); !bytes.Equal(out, []byte{1}) {
			t.Errorf("%x", out)
		}
		if out := pre.ModExp([]byte{2}, []byte{3}, empty); len(out) != 0 {
			t.Errorf("%x", out)
		}
	}
}
