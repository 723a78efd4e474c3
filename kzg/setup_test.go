package kzg_test

import (
	"bytes"
	"testing"

	"cairn/api"
	"cairn/curve"
	"cairn/kzg"
	"cairn/pairing"
)

// coordinate is the number of 96 digits.
func coordinate(digits string) limbs { return of[limbs](hex(digits)) }

// P9.1: tau Base1, and the same each time.
func TestPower(t *testing.T) {
	should := point{
		X: coordinate("0d3eb50121139aa34db1d545093ac9374ab7bca2c0f3bf28e27c8dcd8fc7cb42d25926fc0c97b336e9f0fb35e5a04c81"),
		Y: coordinate("17de623f59a3043952d2f637a935fae14b6dee8b255e526304963d58ab6f1a827c7de623d34d394f8a3d0f57d6e972b9"),
	}
	for range 2 {
		if p := kzg.Power(); p != should {
			t.Errorf("%v, not %v", p, should)
		}
	}
	if e := curve.Bls().Group1(kzg.Power()); e != api.OK {
		t.Error(e)
	}
}

// P9.1: tau Base2, and the same each time.
func TestSetup(t *testing.T) {
	should := api.P2[limbs]{
		X: [2]limbs{
			coordinate("185cbfee53492714734429b7b38608e23926c911cceceac9a36851477ba4c60b087041de621000edc98edada20c1def2"),
			coordinate("15bfd7dd8cdeb128843bc287230af38926187075cbfbefa81009a2ce615ac53d2914e5870cb452d2afaaab24f3499f72"),
		},
		Y: [2]limbs{
			coordinate("014353bdb96b626dd7d5ee8599d1fca2131569490e28de18e82451a496a9c9794ce26d105941f383ee689bfbbb832a99"),
			coordinate("1666c54b0a32529503432fcae0181b4bef79de09fc63671fda5ed1ba9bfa07899495346f3d7ac9cd23048ef30d0a154f"),
		},
	}
	for range 2 {
		if q := kzg.Setup(); q != should {
			t.Errorf("%v, not %v", q, should)
		}
	}
	if e := curve.Bls().Group2(kzg.Setup()); e != api.OK {
		t.Error(e)
	}
}

// P9.1: tau Base1 is written as other programs write it.
func TestPowerBytes(t *testing.T) {
	should := octets("ad3eb50121139aa34db1d545093ac9374ab7bca2c0f3bf28e27c8dcd8fc7cb42d25926fc0c97b336e9f0fb35e5a04c81")
	if b, e := curve.WriteBls1(kzg.Power()); !bytes.Equal(b, should) || e != api.OK {
		t.Errorf("%x, %d", b, e)
	}
	if !bytes.Equal(short(kzg.Power()), should) {
		t.Errorf("%x", short(kzg.Power()))
	}
}

// P9.5: e(Power(), Base2) is e(Base1, Setup()), and nothing beside it is.
func TestItWasTau(t *testing.T) {
	c := curve.Bls()
	is := func(p point, q api.P2[limbs]) bool {
		return good(pairing.Bls([]point{p, neg(base())}, []api.P2[limbs]{c.Base2(), q}))
	}
	if !is(kzg.Power(), kzg.Setup()) {
		t.Error("they are multiples by unlike numbers")
	}
	other := good(c.Neg2(kzg.Setup()))
	if is(neg(kzg.Power()), kzg.Setup()) || is(kzg.Power(), other) || is(add(kzg.Power(), base()), kzg.Setup()) {
		t.Error("all pairs are alike")
	}
	if !is(neg(kzg.Power()), other) {
		t.Error("both negatives")
	}
}
