package pre_test

import (
	"math/big"
	"testing"

	"cairn/api"
	"cairn/curve"
)

// paired is an input of the contract 8: points of G1 and G2 by numbers of times.
func paired(l ...int64) (b []byte) {
	for i := 0; i < len(l); i += 2 {
		b = append(b, join(times(l[i]), times2(l[i+1]))...)
	}
	return b
}

// wantPairs holds the contract 8 against the sum of the products of numbers.
func wantPairs(t *testing.T, name string, l ...int64) {
	t.Helper()
	sum := int64(0)
	for i := 0; i < len(l); i += 2 {
		sum += l[i] * l[i+1]
	}
	should := whole(0)
	if sum == 0 {
		should = whole(1)
	}
	wantRun(t, name, 8, paired(l...), word32(should), api.OK)
}

// P16.3, P16.8: no points, points at infinity, and any, by chapter 8's words.
func TestPairs(t *testing.T) {
	t.Parallel()
	wantPairs(t, "none")
	wantPairs(t, "both at infinity", 0, 0)
	wantPairs(t, "the first at infinity", 0, 1)
	wantPairs(t, "the second at infinity", 1, 0)
	wantPairs(t, "one", 1, 1)
	wantPairs(t, "one, negative", -1, 1)
	wantPairs(t, "P, Q and -P, Q", 1, 1, -1, 1)
	wantPairs(t, "P, Q and P, -Q", 1, 1, 1, -1)
	wantPairs(t, "P, Q and P, Q", 1, 1, 1, 1)
	wantPairs(t, "by numbers", 6, 1, -2, 3)
	wantPairs(t, "three", 2, 3, 5, 4, -13, 2)
	wantPairs(t, "three, not quite", 2, 3, 5, 4, -13, 3)
	wantPairs(t, "infinity between", 3, 7, 0, 5, -21, 1)
}

// P16.3: a product known elsewhere.
func TestKnownPairs(t *testing.T) {
	wantRun(t, "known", 8, octets("1c76476f4def4bb94541d57ebba1193381ffa7aa76ada664dd31c16024c43f593034dd2920f673e204fee2811c678745fc819b55d3e9d294e45c9b03a76aef41"+
		"209dd15ebff5d46c4bd888e51a93cf99a7329636c63514396b4a452003a35bf704bf11ca01483bfa8b34b43561848d28905960114c8ac04049af4b6315a41678"+
		"2bb8324af6cfc93537a2ad1a445cfd0ca2a71acd7ac41fadbf933c2a51be344d120a2a4cf30c1bf9845f20c6fe39e07ea2cce61f0c9bb048165fe5e4de877550"+
		"111e129f1cf1097710d41c4ac70fcdfa5ba2023c6ff1cbeac322de49d1b6df7c2032c61a830e3c17286de9462bf242fca2883585b93870a73853face6a6bf411"+
		"198e9393920d483a7260bfb731fb5d25f1aa493335a9e71297e485b7aef312c21800deef121f1e76426a00665e5c4479674322d4f75edadd46debd5cd992f6ed"+
		"090689d0585ff075ec9e99ad690c3395bc4b313370b38ef355acdadcd122975b12c85ea5db8c6deb4aab71808dcb408fe3d1e7690c43d37b4ce6cc0166fa7daa"), word32(whole(1)), api.OK)
}

// P16.3: lengths that are no multiples of 192.
func TestPairsLength(t *testing.T) {
	t.Parallel()
	right := paired(1, 1, -1, 1)
	for _, n := range []int{1, 63, 64, 127, 128, 191, 193, 255, 256, 320, 383} {
		wantRun(t, "cut off", 8, right[:n], nil, api.ErrFails)
		wantRun(t, "cut off noughts", 8, noughts(n), nil, api.ErrFails)
	}
	wantRun(t, "a nought more", 8, append(right, 0), nil, api.ErrFails)
	wantRun(t, "a nought ahead", 8, append([]byte{0}, right...), nil, api.ErrFails)
	wantRun(t, "half a pair of noughts more", 8, append(right, noughts(96)...), nil, api.ErrFails)
	wantRun(t, "a pair of noughts more", 8, append(right, noughts(192)...), word32(whole(1)), api.OK)
	wantRun(t, "the most pairs", 8, noughts(43690*192), word32(whole(1)), api.OK)
}

// P16.3: points that are none, or of no group, in each place.
func TestPairsFail(t *testing.T) {
	t.Parallel()
	if _, e := curve.ReadBn2(off2()); e != api.ErrGroup {
		t.Fatal(e)
	}
	for _, bad := range bad1() {
		for _, q := range [][]byte{times2(0), times2(1)} {
			wantRun(t, "no point of G1", 8, join(bad, q), nil, api.ErrFails)
			wantRun(t, "no point of G1, first", 8, join(bad, q, times(1), times2(1)), nil, api.ErrFails)
			wantRun(t, "no point of G1, last", 8, join(times(1), times2(1), times(-1), times2(1), bad, q), nil, api.ErrFails)
		}
	}
	for _, bad := range bad2() {
		for _, p := range [][]byte{times(0), times(1)} {
			wantRun(t, "no point of G2", 8, join(p, bad), nil, api.ErrFails)
			wantRun(t, "no point of G2, first", 8, join(p, bad, times(1), times2(1)), nil, api.ErrFails)
			wantRun(t, "no point of G2, last", 8, join(times(1), times2(1), times(-1), times2(1), p, bad), nil, api.ErrFails)
		}
	}
	wantRun(t, "neither", 8, join(bad1()[0], off2()), nil, api.ErrFails)
	wantRun(t, "neither, and another length", 8, join(bad1()[0], off2(), []byte{0}), nil, api.ErrFails)
}

// P16.8: 8 of what chapter 8 says is 1 (P8.3, P8.4), for any numbers.
func TestAnyPairs(t *testing.T) {
	t.Parallel()
	s := source{at: 13}
	for range 8 {
		a, b, c := of(s.octets(32)), of(s.octets(32)), of(s.octets(32))
		sum, product := new(big.Int).Add(a, b), new(big.Int).Mul(a, c)
		minus := func(n *big.Int) *big.Int { return new(big.Int).Neg(n) }
		right := join(timesBig(sum), times2Big(c), timesBig(minus(a)), times2Big(c), timesBig(minus(b)), times2Big(c))
		wantRun(t, "sums", 8, right, word32(whole(1)), api.OK)
		wantRun(t, "products", 8, join(timesBig(product), times2(1), timesBig(minus(a)), times2Big(c)), word32(whole(1)), api.OK)
		wantRun(t, "products in the other place", 8, join(times(1), times2Big(product), timesBig(minus(a)), times2Big(c)), word32(whole(1)), api.OK)
		wantRun(t, "one too many", 8, join(timesBig(plus(product, 1)), times2(1), timesBig(minus(a)), times2Big(c)), word32(whole(0)), api.OK)
	}
}
