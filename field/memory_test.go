package field_test

import (
	"bytes"
	"slices"
	"testing"

	"cairn/api"
	"cairn/field"
)

// P2: an exponent is left as it is, and what lies behind its length makes no difference.
func TestExponentIsLeft(t *testing.T) { both(t, exponentIsLeft[[4]uint64], exponentIsLeft[[6]uint64]) }

func exponentIsLeft[L api.Limbs](t *testing.T) {
	r := ring(t, top[L]())
	x := r.In(small[L](3))
	whole := []uint64{5, 6, 7, 8, 9}
	for n := range 4 {
		wantNumber(t, "Exp", r.Exp(x, whole[:n]), r.Exp(x, slices.Clone(whole[:n:n])))
		if !slices.Equal(whole, []uint64{5, 6, 7, 8, 9}) {
			t.Fatalf("Exp wrote into its exponent: %d", whole)
		}
	}
}

// P2: the same of Big's bytes.
func TestBytesAreLeft(t *testing.T) { both(t, bytesAreLeft[[4]uint64], bytesAreLeft[[6]uint64]) }

func bytesAreLeft[L api.Limbs](t *testing.T) {
	whole := run(100)
	for n := range int(width[L]()/8) + 1 {
		a, e := field.Big[L](whole[:n])
		b, f := field.Big[L](slices.Clone(whole[:n:n]))
		if a != b || e != api.OK || f != api.OK {
			t.Fatalf("Big of %d bytes: %x, %d; %x, %d", n, a, e, b, f)
		}
	}
	if !bytes.Equal(whole, run(100)) {
		t.Fatal("Big wrote into its bytes")
	}
}

// P2: no two answers of Bytes share memory.
func TestBytesAreNew(t *testing.T) { both(t, bytesAreNew[[4]uint64], bytesAreNew[[6]uint64]) }

func bytesAreNew[L api.Limbs](t *testing.T) {
	a := top[L]()
	b := field.Bytes(a)
	clear(b[:cap(b)])
	if c := field.Bytes(a); !bytes.Equal(c, bytes.Repeat([]byte{0xff}, len(b))) {
		t.Fatalf("Bytes: %x", c)
	}
}

// P4: with an error there is nothing beside it.
func TestErrorsAlone(t *testing.T) { both(t, errorsAlone[[4]uint64], errorsAlone[[6]uint64]) }

func errorsAlone[L api.Limbs](t *testing.T) {
	if r, e := field.Make(small[L](10)); r != nil || e != api.ErrModulus {
		t.Errorf("Make: %v, %d", r, e)
	}
	if a, e := field.Big[L](bytes.Repeat([]byte{1}, 49)); a != small[L](0) || e != api.ErrLong {
		t.Errorf("Big: %x, %d", a, e)
	}
}
