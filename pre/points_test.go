package pre_test

import (
	"math/big"
	"testing"

	"cairn/api"
	"cairn/curve"
)

// prime is bn254's p, and groupOrder its r.
func prime() *big.Int {
	return number("30644e72e131a029b85045b68181585d97816a916871ca8d3c208c16d87cfd47")
}

func groupOrder() *big.Int {
	return number("30644e72e131a029b85045b68181585d2833e84879b9709143e1f593f0000001")
}

// times are the bytes of k times Base1, times2 those of k times Base2; k below 0 makes a negative.
func times(k int64) []byte { return timesBig(whole(k)) }

func timesBig(k *big.Int) []byte {
	g := curve.Bn()
	return curve.WriteBn1(good(g.Mul1(g.Base1(), asWord(new(big.Int).Mod(k, groupOrder())))))
}

func times2(k int64) []byte { return times2Big(whole(k)) }

func times2Big(k *big.Int) []byte {
	g := curve.Bn()
	return curve.WriteBn2(good(g.Mul2(g.Base2(), asWord(new(big.Int).Mod(k, groupOrder())))))
}

// bad1 are 64 bytes of no point of G1.
func bad1() [][]byte {
	var l [][]byte
	for _, xy := range [][2]*big.Int{
		{whole(1), whole(1)}, {whole(0), whole(1)}, {whole(1), whole(0)}, {whole(2), whole(1)}, {whole(1), whole(3)},
		{prime(), whole(0)}, {whole(0), prime()}, {prime(), prime()}, {plus(prime(), 1), whole(2)}, {whole(1), plus(prime(), 2)}, {plus(prime(), 1), plus(prime(), 2)},
		{power(256, -1), whole(2)}, {whole(1), power(256, -1)}, {power(256, -1), power(256, -1)}, {power(255, 1), whole(2)},
	} {
		l = append(l, word32s(xy[0], xy[1]))
	}
	return l
}

// off2 is a point of bn254's E2 that does not belong to G2.
func off2() []byte {
	return octets("0000000000000000000000000000000000000000000000000000000000000000" + "0000000000000000000000000000000000000000000000000000000000000001" +
		"0d1271953ed9ea0836846e70a1934187998c7f790cb4d7511b7f8da82de048a4" + "2869111d5381f072f8e2728fdb825a51aadd70e52c9830e9ab4b871c0531f1bb")
}

// bad2 are 128 bytes of no point of G2.
func bad2() [][]byte {
	l := [][]byte{off2()}
	for at := range 4 {
		for _, n := range []*big.Int{prime(), plus(prime(), 1), power(256, -1)} {
			for _, b := range [][]byte{times2(1), noughts(128)} {
				copy(b[32*at:], word32(n))
				l = append(l, b)
			}
			// The base's coordinate and p is the same number modulo p.
			b := times2(1)
			copy(b[32*at:], word32(new(big.Int).Add(of(b[32*at:32*at+32]), prime())))
			l = append(l, b)
		}
		b := times2(1)
		b[32*at+31] ^= 1
		l = append(l, b)
		b = noughts(128)
		b[32*at+31] = 1
		l = append(l, b)
	}
	return append(l, join(times2(1)[32:64], times2(1)[:32], times2(1)[96:], times2(1)[64:96]))
}

// P16.3: sums by numbers of times.
func TestSums(t *testing.T) {
	for _, c := range [][2]int64{{0, 0}, {0, 1}, {1, 0}, {1, 1}, {1, 2}, {2, 1}, {5, 5}, {1, -1}, {7, -7}, {-1, -1}, {-3, 5}, {100, 23}} {
		wantRun(t, "sum", 6, join(times(c[0]), times(c[1])), times(c[0]+c[1]), api.OK)
	}
	s := source{at: 10}
	for range 50 {
		j, k := of(s.octets(32)), of(s.octets(32))
		wantRun(t, "any sum", 6, join(timesBig(j), timesBig(k)), timesBig(new(big.Int).Add(j, k)), api.OK)
	}
}

// P16.3: sums known elsewhere.
func TestKnownSums(t *testing.T) {
	wantRun(t, "known", 6, octets("18b18acfb4c2c30276db5411368e7185b311dd124691610c5d3b74034e093dc9063c909c4720840cb5134cb9f59fa749755796819658d32efc0d288198f37266"+
		"07c2b7f58a84bd6145f00c9c2bc0bb1a187f20ff2c92963a88019e7c6a014eed06614e20c147e940f2d70da3f74c9a17df361706a4485c742bd6788478fa17d7"),
		octets("2243525c5efd4b9c3d3c45ac0ca3fe4dd85e830a4ce6b65fa1eeaee202839703301d1d33be6da8e509df21cc35964723180eed7532537db9ae5e7d48f195c915"), api.OK)
	wantRun(t, "known", 7, octets("039730ea8dff1254c0fee9c0ea777d29a9c710b7e616683f194f18c43b43b869073a5ffcc6fc7a28c30723d6e58ce577356982d65b833a5a5c15bf9024b43d98"+
		"ffffffffffffffffffffffffffffffffffffffffffffffffffffffffffffffff"),
		octets("00a1a234d08efaa2616607e31eca1980128b00b415c845ff25bba3afcb81dc00242077290ed33906aeb8e42fd98c41bcb9057ba03421af3f2d08cfc441186024"), api.OK)
}

// P16.3: points that are none, in each place of 6 and 7.
func TestSumsFail(t *testing.T) {
	for _, bad := range bad1() {
		for _, other := range [][]byte{times(0), times(1), bad} {
			wantRun(t, "the first is none", 6, join(bad, other), nil, api.ErrFails)
			wantRun(t, "the second is none", 6, join(other, bad), nil, api.ErrFails)
		}
		for _, k := range []*big.Int{whole(0), whole(1), groupOrder(), power(256, -1)} {
			wantRun(t, "none times a number", 7, join(bad, word32(k)), nil, api.ErrFails)
		}
	}
}

// P16.3: multiples, of infinity, too, and by numbers of the group's order and above.
func TestMultiples(t *testing.T) {
	s := source{at: 11}
	numbers := []*big.Int{whole(0), whole(1), whole(2), whole(3), power(64, 0), power(128, -1), plus(groupOrder(), -1), groupOrder(), plus(groupOrder(), 1), prime(),
		power(255, 0), power(256, -1), of(s.octets(32)), of(s.octets(32))}
	for _, k := range numbers {
		for _, j := range []int64{0, 1, 2, -1, 1000} {
			wantRun(t, "multiple", 7, join(times(j), word32(k)), timesBig(new(big.Int).Mul(whole(j), k)), api.OK)
		}
	}
}

// P16.3, P16.7: input that is cut off, and with more behind.
func TestSumsLength(t *testing.T) {
	s := source{at: 12}
	sum, multiple := join(times(5), times(6)), join(times(5), word32(power(250, 77)))
	for n := range 129 {
		wantModel(t, "cut off", 6, sum[:n])
		wantModel(t, "cut off", 7, multiple[:min(n, 96)])
	}
	wantRun(t, "no bytes", 6, nil, noughts(64), api.OK)
	wantRun(t, "no bytes", 7, nil, noughts(64), api.OK)
	wantRun(t, "no second point", 6, sum[:64], times(5), api.OK)
	wantRun(t, "a byte of the second point", 6, join(times(5), noughts(31), []byte{1}), nil, api.ErrFails)
	wantRun(t, "x alone", 6, times(1)[:32], nil, api.ErrFails)
	wantRun(t, "y without its last byte", 6, times(1)[:63], nil, api.ErrFails)
	wantRun(t, "x alone", 7, times(1)[:32], nil, api.ErrFails)
	wantRun(t, "no number", 7, multiple[:64], noughts(64), api.OK)
	wantRun(t, "a number's first byte", 7, multiple[:65], timesBig(new(big.Int).Mul(whole(5), power(250, 0))), api.OK)
	for _, more := range [][]byte{{0}, {1}, noughts(64), s.octets(64), s.octets(1000)} {
		wantRun(t, "more behind", 6, join(sum, more), times(11), api.OK)
		wantRun(t, "more behind", 7, join(multiple, more), timesBig(new(big.Int).Mul(whole(5), power(250, 77))), api.OK)
	}
}
