package pairing_test

import (
	"math/big"
	"testing"

	"cairn/api"
	"cairn/curve"
)

// octets are the bytes of digits to the base 16.
func octets(digits string) []byte { return hex(digits).FillBytes(make([]byte, len(digits)/2)) }

// readBn are the pairs that bytes tell, 192 a pair.
func readBn(t *testing.T, b []byte) (p []api.P1[[4]uint64], q []api.P2[[4]uint64]) {
	t.Helper()
	for ; len(b) > 0; b = b[192:] {
		x, e := curve.ReadBn1(b[:64])
		y, f := curve.ReadBn2(b[64:192])
		if e != api.OK || f != api.OK {
			t.Fatal(e, f)
		}
		p, q = append(p, x), append(q, y)
	}
	return p, q
}

// P8.1: two pairs of bn254 of which other programs know that their product is 1; nobody knows which multiples of the bases they are.
func TestKnownBn(t *testing.T) {
	b := octets("1c76476f4def4bb94541d57ebba1193381ffa7aa76ada664dd31c16024c43f59" +
		"3034dd2920f673e204fee2811c678745fc819b55d3e9d294e45c9b03a76aef41" +
		"209dd15ebff5d46c4bd888e51a93cf99a7329636c63514396b4a452003a35bf7" +
		"04bf11ca01483bfa8b34b43561848d28905960114c8ac04049af4b6315a41678" +
		"2bb8324af6cfc93537a2ad1a445cfd0ca2a71acd7ac41fadbf933c2a51be344d" +
		"120a2a4cf30c1bf9845f20c6fe39e07ea2cce61f0c9bb048165fe5e4de877550" +
		"111e129f1cf1097710d41c4ac70fcdfa5ba2023c6ff1cbeac322de49d1b6df7c" +
		"2032c61a830e3c17286de9462bf242fca2883585b93870a73853face6a6bf411" +
		"198e9393920d483a7260bfb731fb5d25f1aa493335a9e71297e485b7aef312c2" +
		"1800deef121f1e76426a00665e5c4479674322d4f75edadd46debd5cd992f6ed" +
		"090689d0585ff075ec9e99ad690c3395bc4b313370b38ef355acdadcd122975b" +
		"12c85ea5db8c6deb4aab71808dcb408fe3d1e7690c43d37b4ce6cc0166fa7daa")
	s := bnSide(t)
	p, q := readBn(t, b)
	s.want(t, "both", true, p, q)
	s.want(t, "the first", false, p[:1], q[:1])
	s.want(t, "the second", false, p[1:], q[1:])
	s.want(t, "P turned round", false, list1(p[1], p[0]), q)
}

// tau is chapter 9's tau times the bases, of a tau that nobody knows.
func tau() (p api.P1[[6]uint64], q api.P2[[6]uint64]) {
	six := func(digits string) [6]uint64 { return of[[6]uint64](hex(digits)) }
	p = api.P1[[6]uint64]{
		X: six("0d3eb50121139aa34db1d545093ac9374ab7bca2c0f3bf28e27c8dcd8fc7cb42d25926fc0c97b336e9f0fb35e5a04c81"),
		Y: six("17de623f59a3043952d2f637a935fae14b6dee8b255e526304963d58ab6f1a827c7de623d34d394f8a3d0f57d6e972b9"),
	}
	q = api.P2[[6]uint64]{
		X: [2][6]uint64{
			six("185cbfee53492714734429b7b38608e23926c911cceceac9a36851477ba4c60b087041de621000edc98edada20c1def2"),
			six("15bfd7dd8cdeb128843bc287230af38926187075cbfbefa81009a2ce615ac53d2914e5870cb452d2afaaab24f3499f72"),
		},
		Y: [2][6]uint64{
			six("014353bdb96b626dd7d5ee8599d1fca2131569490e28de18e82451a496a9c9794ce26d105941f383ee689bfbbb832a99"),
			six("1666c54b0a32529503432fcae0181b4bef79de09fc63671fda5ed1ba9bfa07899495346f3d7ac9cd23048ef30d0a154f"),
		},
	}
	return p, q
}

// P8.1: tau Base1 against tau Base2.
func TestKnownBls(t *testing.T) {
	s := blsSide(t)
	p, q := tau()
	s.want(t, "tau", true, list1(p, s.neg1(s.c.Base1())), list2(s.c.Base2(), q))
	s.want(t, "tau twice", false, list1(p, s.neg1(s.c.Base1())), list2(q, s.c.Base2()))
}

// P8.1, P8.2: a commitment and a proof that other programs know (EIP-4844's 10th contract): C - y Base1 against (tau - z) Base2.
func TestKnownProof(t *testing.T) {
	s := blsSide(t)
	read := func(digits string) api.P1[[6]uint64] { return point(curve.ReadBls1(octets(digits))) }
	z := hex("564c0a11a0f704f4fc3e8acfe0f8245f0ad1347b378fbf96e206da11a5d36306")
	y := hex("24d25032e67a7e6a4910df5834b8fe70e6bcfeeac0352434196bdf4b2485d5a1")
	c := read("8f59a8d2a1a625a17f3fea0fe5eb8c896db3764f3185481bc22f91b4aaffcca25f26936857bc3a7c2539ea8ec3a952b7")
	proof := read("873033e038326e87ed3e1276fd140253fa08e9fc25fb2d9a98527fc22a2c9612fbeafdad446cbc7bcdbdcd780af2c16a")
	_, q := tau()
	for _, d := range []int64{0, 1, -1} {
		rest, e := s.sum([]api.Term[[6]uint64]{{P: c, K: api.Word{1}}, {P: s.c.Base1(), K: word(new(big.Int).Sub(s.r, plus(y, d)))}})
		if e != api.OK {
			t.Fatal(e)
		}
		right := point(s.c.Add2(q, s.neg2(s.second(z))))
		s.want(t, "a proof", d == 0, list1(rest, s.neg1(proof)), list2(s.c.Base2(), right))
	}
}
