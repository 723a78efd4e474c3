package secp_test

import (
	"testing"

	"cairn/api"
	"cairn/field"
	"cairn/secp"
)

// The chapter's example.
func TestExample(t *testing.T) {
	p, e := secp.Public(api.Word{1})
	wantPoint(t, "Public(1)", p, e, secp.Base())
	should := api.Address{0x7e, 0x5f, 0x45, 0x52, 0x09, 0x1a, 0x69, 0x12, 0x5d, 0x5d, 0xfc, 0xb7, 0xb8, 0xc2, 0x65, 0x90, 0x29, 0x39, 0x5b, 0xdf}
	if a, e := secp.Address(p); a != should || e != api.OK {
		t.Errorf("Address(G): %x, %d", a, e)
	}
	p, e = secp.Mul(secp.Base(), field.SecpN())
	wantPoint(t, "Mul(G, n)", p, e, none())
	p, e = secp.Public(api.Word{})
	wantNoPoint(t, "Public(0)", p, e, api.ErrSecret)
	p, e = secp.Lift(api.Word{5}, 0)
	wantNoPoint(t, "Lift(5, 0)", p, e, api.ErrPoint)
}
