package curve_test

import (
	"bytes"
	"testing"

	"cairn/api"
	"cairn/curve"
)

// reads are the calls that take bytes: how many, and of which point.
func reads(t *testing.T) map[string]struct {
	read  func(b []byte) (spot, api.Errno)
	bytes []byte
} {
	t.Helper()
	bn := curve.Bn()
	short, e := curve.WriteBls1(curve.Bls().Base1())
	if e != api.OK {
		t.Fatal(e)
	}
	return map[string]struct {
		read  func(b []byte) (spot, api.Errno)
		bytes []byte
	}{
		"ReadBn1":  {func(b []byte) (spot, api.Errno) { p, e := curve.ReadBn1(b); return spot1(p), e }, curve.WriteBn1(bn.Base1())},
		"ReadBn2":  {func(b []byte) (spot, api.Errno) { p, e := curve.ReadBn2(b); return spot2(p), e }, curve.WriteBn2(bn.Base2())},
		"ReadBls1": {readBls, short},
	}
}

// P2: bytes are left as they are, and what lies behind their length makes no difference.
func TestBytesAreLeft(t *testing.T) {
	for name, x := range reads(t) {
		whole := append(bytes.Clone(x.bytes), 1, 2, 3, 4)
		n := len(x.bytes)
		p, e := x.read(whole[:n])
		q, f := x.read(whole[:n:n])
		if p != q || e != api.OK || f != api.OK {
			t.Errorf("%s: %v, %d; %v, %d", name, p, e, q, f)
		}
		x.read(whole)
		x.read(whole[:n-1])
		if !bytes.Equal(whole, append(bytes.Clone(x.bytes), 1, 2, 3, 4)) {
			t.Errorf("%s wrote into its bytes", name)
		}
	}
}

// P2: no two answers of Write share memory, and they have no room behind them that another one's would.
func TestBytesAreNew(t *testing.T) {
	bn, bls := curve.Bn(), curve.Bls()
	short := func(p api.P1[[6]uint64]) []byte {
		b, e := curve.WriteBls1(p)
		if e != api.OK {
			t.Fatal(e)
		}
		return b
	}
	for name, write := range map[string]func() []byte{
		"WriteBn1":              func() []byte { return curve.WriteBn1(bn.Base1()) },
		"WriteBn2":              func() []byte { return curve.WriteBn2(bn.Base2()) },
		"WriteBls1":             func() []byte { return short(bls.Base1()) },
		"WriteBn1 of infinity":  func() []byte { return curve.WriteBn1(api.P1[[4]uint64]{Inf: true}) },
		"WriteBn2 of infinity":  func() []byte { return curve.WriteBn2(api.P2[[4]uint64]{Inf: true}) },
		"WriteBls1 of infinity": func() []byte { return short(api.P1[[6]uint64]{Inf: true}) },
	} {
		b := write()
		should := bytes.Clone(b)
		for i := range b[:cap(b)] {
			b[:cap(b)][i] ^= 0xff
		}
		if again := write(); !bytes.Equal(again, should) {
			t.Errorf("%s: %x, not %x", name, again, should)
		}
	}
}
