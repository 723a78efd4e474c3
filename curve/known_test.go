package curve_test

import (
	"bytes"
	"testing"

	"cairn/api"
	"cairn/curve"
)

// octets are the bytes of digits to the base 16.
func octets(digits string) []byte { return hex(digits).FillBytes(make([]byte, len(digits)/2)) }

// readBn is the point of bn254's E1 that digits tell.
func readBn(t *testing.T, digits string) api.P1[[4]uint64] {
	t.Helper()
	p, e := curve.ReadBn1(octets(digits))
	if e != api.OK {
		t.Fatalf("%s: %d", digits, e)
	}
	return p
}

// P7.4: sums and multiples of bn254 that other programs know.
func TestKnownBn(t *testing.T) {
	c := curve.Bn()
	p := readBn(t, "18b18acfb4c2c30276db5411368e7185b311dd124691610c5d3b74034e093dc9063c909c4720840cb5134cb9f59fa749755796819658d32efc0d288198f37266")
	q := readBn(t, "07c2b7f58a84bd6145f00c9c2bc0bb1a187f20ff2c92963a88019e7c6a014eed06614e20c147e940f2d70da3f74c9a17df361706a4485c742bd6788478fa17d7")
	sum, e := c.Add1(p, q)
	if sum != readBn(t, "2243525c5efd4b9c3d3c45ac0ca3fe4dd85e830a4ce6b65fa1eeaee202839703301d1d33be6da8e509df21cc35964723180eed7532537db9ae5e7d48f195c915") || e != api.OK {
		t.Errorf("%v, %d", sum, e)
	}
	more, e := c.Add1(sum, p)
	if more != readBn(t, "2bd3e6d0f3b142924f5ca7b49ce5b9d54c4703d7ae5648e61d02268b1a0a9fb721611ce0a6af85915e2f1d70300909ce2e49dfad4a4619c8390cae66cefdb204") || e != api.OK {
		t.Errorf("%v, %d", more, e)
	}
	product, e := c.Mul1(more, api.Word{0x11138ce750fa15c2})
	if product != readBn(t, "070a8d6a982153cae4be29d434e8faef8a47b274a053f5a4ee2a6c9c13c31e5c031b8ce914eba3a9ffb989f9cdd5b0f01943074bf4f0f315690ec3cec6981afc") || e != api.OK {
		t.Errorf("%v, %d", product, e)
	}
}

// P7.7: bytes of small multiples of BLS12-381's base that other programs know.
func TestKnownBls(t *testing.T) {
	c := curve.Bls()
	for k, digits := range map[uint64]string{
		1: "97f1d3a73197d7942695638c4fa9ac0fc3688c4f9774b905a14e3a3f171bac586c55e83ff97a1aeffb3af00adb22c6bb",
		2: "a572cbea904d67468808c8eb50a9450c9721db309128012543902d0ac358a62ae28f75bb8f1c7c42c39a8c5529bf0f4e",
		3: "89ece308f9d1f0131765212deca99697b112d61f9be9a5f1f3780a51335b3ff981747a0b2ca2179b96d2c0c9024e5224",
	} {
		p, e := c.Mul1(c.Base1(), api.Word{k})
		if e != api.OK {
			t.Fatal(k, e)
		}
		if b, e := curve.WriteBls1(p); !bytes.Equal(b, octets(digits)) || e != api.OK {
			t.Errorf("%d: %x, %d", k, b, e)
		}
		if q, e := curve.ReadBls1(octets(digits)); q != p || e != api.OK {
			t.Errorf("%d: %v, %d", k, q, e)
		}
	}
}

// P7.3, P7.5: points of BLS12-381's groups of which nobody knows which multiples of the bases they are: those of chapter 9.
func TestKnownMembers(t *testing.T) {
	c := curve.Bls()
	six := func(digits string) [6]uint64 { return numeral(hex(digits)) }
	p := api.P1[[6]uint64]{
		X: six("0d3eb50121139aa34db1d545093ac9374ab7bca2c0f3bf28e27c8dcd8fc7cb42d25926fc0c97b336e9f0fb35e5a04c81"),
		Y: six("17de623f59a3043952d2f637a935fae14b6dee8b255e526304963d58ab6f1a827c7de623d34d394f8a3d0f57d6e972b9"),
	}
	if c.Good1(p) != api.OK || c.Group1(p) != api.OK {
		t.Errorf("%d, %d", c.Good1(p), c.Group1(p))
	}
	q := api.P2[[6]uint64]{
		X: [2][6]uint64{
			six("185cbfee53492714734429b7b38608e23926c911cceceac9a36851477ba4c60b087041de621000edc98edada20c1def2"),
			six("15bfd7dd8cdeb128843bc287230af38926187075cbfbefa81009a2ce615ac53d2914e5870cb452d2afaaab24f3499f72"),
		},
		Y: [2][6]uint64{
			six("014353bdb96b626dd7d5ee8599d1fca2131569490e28de18e82451a496a9c9794ce26d105941f383ee689bfbbb832a99"),
			six("1666c54b0a32529503432fcae0181b4bef79de09fc63671fda5ed1ba9bfa07899495346f3d7ac9cd23048ef30d0a154f"),
		},
	}
	if c.Good2(q) != api.OK || c.Group2(q) != api.OK {
		t.Errorf("%d, %d", c.Good2(q), c.Group2(q))
	}
}
