package pre_test

import (
	"bytes"
	"math/big"
	"testing"

	"cairn/api"
	"cairn/pre"
)

// P16.6: to the power of a product is to the power of the one, and of that to the power of the other.
func TestProductsOfExponents(t *testing.T) {
	s := source{at: 18}
	for range 2000 {
		base, mod := s.octets(s.below(40)), s.octets(s.below(40))
		first, second := s.octets(s.below(12)), s.octets(s.below(12))
		product := new(big.Int).Mul(of(first), of(second)).Bytes()
		one, two := pre.ModExp(base, product, mod), pre.ModExp(pre.ModExp(base, first, mod), second, mod)
		if !bytes.Equal(one, two) {
			t.Fatalf("%x, %x, %x, %x: %x, %x", base, first, second, mod, one, two)
		}
	}
}

// P16.6: noughts ahead change nothing, but as many more in the answer as the modulus has.
func TestNoughtsAhead(t *testing.T) {
	s := source{at: 19}
	for range 500 {
		base, exp, mod := s.octets(s.below(30)), s.octets(s.below(10)), s.octets(s.below(30))
		should := pre.ModExp(base, exp, mod)
		for _, n := range []int{1, 7, 8, 9, 64} {
			for i, out := range [][]byte{
				pre.ModExp(join(noughts(n), base), exp, mod), pre.ModExp(base, join(noughts(n), exp), mod), pre.ModExp(join(noughts(n), base), join(noughts(n), exp), mod),
			} {
				if !bytes.Equal(out, should) {
					t.Fatalf("%d noughts ahead of %d: %x, not %x", n, i, out, should)
				}
			}
			if out := pre.ModExp(base, exp, join(noughts(n), mod)); !bytes.Equal(out, join(noughts(n), should)) {
				t.Fatalf("%d noughts ahead of the modulus: %x, not %x", n, out, should)
			}
		}
	}
}

// P16.7: noughts behind input change nothing, nor does anything behind what it is padded to.
func TestPadding(t *testing.T) {
	t.Parallel()
	s := source{at: 20}
	known, _ := knownSigned()
	for _, c := range []struct {
		n, long int
		input   []byte
	}{
		{1, 128, known}, {1, 128, known[:127]}, {1, 128, known[:100]}, {1, 128, nil}, {1, 128, s.octets(128)},
		{6, 128, join(times(3), times(4))}, {6, 128, times(3)}, {6, 128, times(3)[:63]}, {6, 128, nil}, {6, 128, s.octets(128)},
		{7, 96, join(times(3), word32(whole(4)))}, {7, 96, times(3)}, {7, 96, join(times(3), []byte{1})}, {7, 96, times(3)[:32]}, {7, 96, nil}, {7, 96, s.octets(96)},
	} {
		should, shouldE := pre.Run(c.n, c.input)
		for _, n := range []int{1, 31, 32, 33, 64, 96, 200} {
			wantRun(t, "noughts behind", c.n, join(c.input, noughts(n)), should, shouldE)
		}
		full := padded(c.input, c.long)
		wantRun(t, "full", c.n, full, should, shouldE)
		for _, n := range []int{1, 2, 31, 32, 64, 192} {
			wantRun(t, "any bytes behind", c.n, join(full, s.octets(n)), should, shouldE)
			wantRun(t, "the greatest bytes behind", c.n, join(full, bytesOf(n, 0xff)), should, shouldE)
		}
	}
}

// P16.8: 6 is commutative, and 7 with 2 is 6 of the point with itself, whatever the bytes.
func TestSumsFollow(t *testing.T) {
	t.Parallel()
	s := source{at: 21}
	points := append(bad1(), times(0), times(1), times(2), times(-1), s.octets(64), timesBig(of(s.octets(32))), timesBig(of(s.octets(32))))
	for _, p := range points {
		for _, q := range points {
			should, shouldE := pre.Run(6, join(p, q))
			wantRun(t, "turned round", 6, join(q, p), should, shouldE)
		}
		should, shouldE := pre.Run(6, join(p, p))
		wantRun(t, "twice", 7, join(p, word32(whole(2))), should, shouldE)
	}
}

// P16.9: with gas of at least Cost Call answers what Run does, with less ErrGas, whatever the input.
func TestGas(t *testing.T) {
	t.Parallel()
	s := source{at: 22}
	for range 2000 {
		n := s.below(13) - 1
		input := s.octets(s.below(300))
		switch {
		case n == 9 && s.below(2) == 0:
			input = piece(byte(s.next()), "abc", byte(s.below(3)))
		case n == 9:
			copy(input, []byte{0, 0})
		case n == 5:
			input = sized(int64(s.below(40)), int64(s.below(40)), int64(s.below(40)), input...)
		case n == 8:
			input = paired(int64(s.below(3)), int64(s.below(3)))
		}
		cost, costE := pre.Cost(n, input)
		out, e := pre.Run(n, input)
		if costE != api.OK && e != costE {
			t.Fatalf("%d, %x: %d, %d", n, input, costE, e)
		}
		for _, gas := range []uint64{0, 1, cost - 1, cost, cost + 1, cost / 2, 2 * cost, 1<<64 - 1, s.next() >> s.below(64)} {
			switch {
			case costE != api.OK:
				wantCall(t, "no cost", n, input, gas, nil, 0, costE)
			case gas < cost:
				wantCall(t, "too little", n, input, gas, nil, 0, api.ErrGas)
			case e != api.OK:
				wantCall(t, "fails", n, input, gas, nil, 0, e)
			default:
				wantCall(t, "enough", n, input, gas, out, gas-cost, api.OK)
			}
		}
	}
}

// P16.4: gas that is just enough and one too little, and what is left with each error.
func TestCall(t *testing.T) {
	abc := []byte("abc")
	wantCall(t, "just enough", 4, abc, 18, abc, 0, api.OK)
	wantCall(t, "one too little", 4, abc, 17, nil, 0, api.ErrGas)
	wantCall(t, "none", 4, abc, 0, nil, 0, api.ErrGas)
	wantCall(t, "more", 4, abc, 118, abc, 100, api.OK)
	wantCall(t, "the most", 4, abc, 1<<64-1, abc, 1<<64-19, api.OK)
	wantCall(t, "it fails", 6, word32s(whole(1), whole(1)), 1000, nil, 0, api.ErrFails)
	wantCall(t, "it would fail, and costs too much", 6, word32s(whole(1), whole(1)), 149, nil, 0, api.ErrGas)
	wantCall(t, "it fails, and costs nothing", 9, nil, 0, nil, 0, api.ErrFails)
	wantCall(t, "it fails, and costs nothing, with gas", 9, nil, 1000, nil, 0, api.ErrFails)
	wantCall(t, "it costs nothing", 9, piece(0, "abc", 1), 0, good(pre.Run(9, piece(0, "abc", 1))), 0, api.OK)
	wantCall(t, "it costs nothing, with gas", 9, piece(0, "abc", 1), 7, good(pre.Run(9, piece(0, "abc", 1))), 7, api.OK)
	wantCall(t, "no signer", 1, nil, 3001, nil, 1, api.OK)
	wantCall(t, "nobody can pay", 5, asked(power(255, 0), whole(0), whole(0)), 1<<64-1, nil, 0, api.ErrGas)
	wantCall(t, "no contract", 11, abc, 1000, nil, 0, api.ErrNone)
	wantCall(t, "too long", 4, noughts(mostMemory+1), 1<<40, nil, 0, api.ErrLong)
	// What costs that much would take too long to be run: it is not run.
	wantCall(t, "more than anybody has", 9, join(bytesOf(4, 0xff), noughts(209)), 1<<32-2, nil, 0, api.ErrGas)
}
