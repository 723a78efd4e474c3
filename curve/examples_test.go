package curve_test

import (
	"bytes"
	"testing"

	"cairn/api"
	"cairn/curve"
)

// The chapter's first example.
func TestExampleBn(t *testing.T) {
	c := curve.Bn()
	should := api.P1[[4]uint64]{
		X: of[[4]uint64](hex("030644e72e131a029b85045b68181585d97816a916871ca8d3c208c16d87cfd3")),
		Y: of[[4]uint64](hex("15ed738c0e0a7c92e7845f96b2ae9c0a68a6a449e3538fc7ff3ebf7a5a18a2c4")),
	}
	one := api.P1[[4]uint64]{X: [4]uint64{1}, Y: [4]uint64{2}}
	if p, e := c.Mul1(one, api.Word{2}); p != should || e != api.OK {
		t.Errorf("Mul1: %v, %d", p, e)
	}
	if p, e := c.Add1(one, one); p != should || e != api.OK {
		t.Errorf("Add1: %v, %d", p, e)
	}
	b := make([]byte, 64)
	b[31], b[63] = 1, 1
	if p, e := curve.ReadBn1(b); p != (api.P1[[4]uint64]{}) || e != api.ErrCurve {
		t.Errorf("ReadBn1: %v, %d", p, e)
	}
}

// The chapter's second example.
func TestExampleBls(t *testing.T) {
	b := append([]byte{0xc0}, make([]byte, 47)...)
	p, e := curve.ReadBls1(b)
	if p != (api.P1[[6]uint64]{Inf: true}) || e != api.OK {
		t.Errorf("ReadBls1: %v, %d", p, e)
	}
	if again, e := curve.WriteBls1(p); !bytes.Equal(again, b) || e != api.OK {
		t.Errorf("WriteBls1: %x, %d", again, e)
	}
}
