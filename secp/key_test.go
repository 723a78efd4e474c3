package secp_test

import (
	"encoding/hex"
	"math"
	"testing"

	"cairn/api"
	"cairn/digest"
	"cairn/field"
	"cairn/secp"
)

// P6.3
func TestLift(t *testing.T) {
	l := []api.Word{{}, plus(field.SecpP(), -1), plus(field.SecpP(), -2), plus(field.SecpN(), -1), field.SecpN(), highX(), secp.Base().X}
	for x := range uint64(40) {
		l = append(l, api.Word{x})
	}
	s := source{at: 21}
	for range 40 {
		l = append(l, s.word())
	}
	lifted := 0
	for _, x := range l {
		for odd := range 2 {
			p, e := secp.Lift(x, odd)
			if should, ok := modelLift(x, odd); ok {
				wantPoint(t, "Lift", p, e, should, x, odd)
				lifted++
			} else {
				wantNoPoint(t, "Lift", p, e, api.ErrPoint, x, odd)
			}
		}
	}
	if lifted == 0 || lifted == 2*len(l) {
		t.Error(lifted)
	}
}

// P6.3: of X = 1 there are two points.
func TestLiftOfOne(t *testing.T) {
	even, e := secp.Lift(api.Word{1}, 0)
	if e != api.OK || even.X != (api.Word{1}) || even.Y[0]%2 != 0 || !modelGood(even) {
		t.Errorf("%v, %d", even, e)
	}
	odd, e := secp.Lift(api.Word{1}, 1)
	if e != api.OK || odd.X != (api.Word{1}) || odd.Y[0]%2 != 1 || !modelGood(odd) {
		t.Errorf("%v, %d", odd, e)
	}
}

// P6.3: what can't be lifted. 1 has a point, 5 has none.
func TestLiftRefuses(t *testing.T) {
	for _, odd := range []int{2, 3, -1, -2, 256, 257, 1 << 32, 1<<32 + 1, math.MinInt, math.MinInt + 1, math.MaxInt} {
		for _, x := range []api.Word{{1}, {5}, secp.Base().X, field.SecpP()} {
			p, e := secp.Lift(x, odd)
			wantNoPoint(t, "Lift", p, e, api.ErrPoint, x, odd)
		}
	}
	for odd := range 2 {
		for _, x := range []api.Word{{5}, field.SecpP(), plus(field.SecpP(), 1), plus(field.SecpP(), 2), plus(field.SecpP(), 5), plus(top(), -1), top()} {
			p, e := secp.Lift(x, odd)
			wantNoPoint(t, "Lift", p, e, api.ErrPoint, x, odd)
		}
	}
}

// P6.3
func TestPublic(t *testing.T) {
	for _, key := range factors(20) {
		p, e := secp.Public(key)
		if isScalar(key) {
			wantPoint(t, "Public", p, e, modelMul(secp.Base(), number(key)), key)
		} else {
			wantNoPoint(t, "Public", p, e, api.ErrSecret, key)
		}
	}
}

// P6.3: the edges by themselves.
func TestPublicAtEdges(t *testing.T) {
	p, e := secp.Public(api.Word{1})
	wantPoint(t, "Public(1)", p, e, secp.Base())
	p, e = secp.Public(api.Word{2})
	wantPoint(t, "Public(2)", p, e, two())
	p, e = secp.Public(plus(field.SecpN(), -1))
	wantPoint(t, "Public(n - 1)", p, e, modelNeg(secp.Base()))
	for _, key := range []api.Word{{}, field.SecpN(), plus(field.SecpN(), 1), field.SecpP(), top()} {
		p, e := secp.Public(key)
		wantNoPoint(t, "Public", p, e, api.ErrSecret, key)
	}
}

// P6.3: addresses that are known elsewhere.
func TestKnownAddresses(t *testing.T) {
	for _, x := range []struct {
		key     api.Word
		address string
	}{
		{api.Word{1}, "7e5f4552091a69125d5dfcb7b8c2659029395bdf"},
		{api.Word{2}, "2b5ad5c4795c026514f8317c7a215e218dccd6cf"},
		{api.Word{3}, "6813eb9362372eef6200f3b1dbc3f819671cba69"},
		{plus(field.SecpN(), -1), "80c0dbf239224071c59dd8970ab9d542e3414ab2"},
		{keyOf46(), "9d8a62f656a8d1615c1294fd71e9cfb3e4855a4f"},
	} {
		p, _ := secp.Public(x.key)
		a, e := secp.Address(p)
		if hex.EncodeToString(a[:]) != x.address || e != api.OK {
			t.Errorf("the address of key %x: %x, %d", x.key, a, e)
		}
	}
}

// keyOf46 is the key of EIP-155's example.
func keyOf46() api.Word {
	const limb = 0x4646464646464646
	return api.Word{limb, limb, limb, limb}
}

// P6.3: the bytes of small coordinates are 32 too.
func TestAddress(t *testing.T) {
	for _, p := range points(30) {
		if p.Inf {
			continue
		}
		b := append(number(p.X).FillBytes(make([]byte, 32)), number(p.Y).FillBytes(make([]byte, 32))...)
		h := digest.Keccak(b)
		if a, e := secp.Address(p); a != api.Address(h[12:]) || e != api.OK {
			t.Errorf("Address(%v): %x, %d", p, a, e)
		}
	}
}

// P6.3: what has no address.
func TestNoAddress(t *testing.T) {
	l := bad()
	l["Inf"] = none()
	for name, p := range l {
		if a, e := secp.Address(p); a != (api.Address{}) || e != api.ErrPoint {
			t.Errorf("%s: %x, %d", name, a, e)
		}
	}
}
