package gas_test

import (
	"bytes"
	"slices"
	"testing"

	"cairn/gas"
)

// P2: nothing that is handed in is changed, and what lies behind its length is neither read nor written.
func TestCodeBehindItsLength(t *testing.T) {
	whole := []byte{0x5b, 0x61, 0x5b, 0x5b, 0x5b, 0x5b, 0x00, 0x01}
	was := bytes.Clone(whole)
	for n := range len(whole) {
		code := whole[:n]
		alone := bytes.Clone(code)
		if !slices.Equal(steps(gas.Codes(code)), steps(gas.Codes(alone))) || !slices.Equal(slices.Collect(gas.Dests(code)), slices.Collect(gas.Dests(alone))) {
			t.Errorf("Codes or Dests of %d bytes", n)
		}
		for at := range len(whole) {
			if gas.Dest(code, at) != gas.Dest(alone, at) {
				t.Errorf("Dest of %d bytes at %d", n, at)
			}
		}
		want(t, "Data", gas.Data(code), gas.Data(alone), n)
	}
	if !bytes.Equal(whole, was) {
		t.Error("the code was changed")
	}
}

// P2: what is gone over is the code of the call, whatever becomes of the caller's bytes.
func TestCodeIsKept(t *testing.T) {
	code := []byte{0x5b, 0x60, 0x5b, 0x5b}
	codes, dests := gas.Codes(code), gas.Dests(code)
	clear(code)
	if l := steps(codes); !slices.Equal(l, []step{{0, 0x5b}, {1, 0x60}, {3, 0x5b}}) {
		t.Error(l)
	}
	if l := slices.Collect(dests); !slices.Equal(l, []int{0, 3}) {
		t.Error(l)
	}
	for _, op := range codes {
		code[3] = op
	}
	if l := slices.Collect(dests); !slices.Equal(l, []int{0, 3}) {
		t.Error(l)
	}
}
