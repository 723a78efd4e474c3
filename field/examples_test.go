package field_test

import (
	"testing"

	"cairn/api"
	"cairn/field"
)

// The chapter's first example, of both widths.
func TestExampleSeven(t *testing.T) { both(t, exampleSeven[[4]uint64], exampleSeven[[6]uint64]) }

func exampleSeven[L api.Limbs](t *testing.T) {
	r := ring(t, small[L](7))
	at := func(n uint64) L { return r.In(small[L](n)) }
	wantNumber(t, "Mul", r.Out(r.Mul(at(5), at(10))), small[L](1))
	wantNumber(t, "Inv", r.Out(r.Inv(at(3))), small[L](5))
	x, ok := r.Root(at(2))
	wantNumber(t, "Root", r.Out(x), small[L](4))
	if !ok {
		t.Error("Root(2): false")
	}
	if x, ok := r.Root(at(3)); ok || x != small[L](0) {
		t.Errorf("Root(3): %x, %v", x, ok)
	}
}

// The chapter's second example, of both widths.
func TestExampleNumbers(t *testing.T) { both(t, exampleNumbers[[4]uint64], exampleNumbers[[6]uint64]) }

func exampleNumbers[L api.Limbs](t *testing.T) {
	a, e := field.Big[L]([]byte{1, 0})
	if a != small[L](256) || e != api.OK {
		t.Errorf("Big: %x, %d", a, e)
	}
	if r, e := field.Make(small[L](8)); r != nil || e != api.ErrModulus {
		t.Errorf("Make(8): %v, %d", r, e)
	}
}
