package gas_test

import (
	"slices"
	"testing"

	"cairn/api"
	"cairn/gas"
)

// The chapter's first example.
func TestExampleOpcodesAndMemory(t *testing.T) {
	if o, is := gas.Op(1); o != (api.OpInfo{Name: "ADD", Gas: 3, Pops: 2, Pushes: 1}) || !is {
		t.Error(o, is)
	}
	if o, is := gas.Op(0x61); o != (api.OpInfo{Name: "PUSH2", Gas: 3, Pops: 0, Pushes: 1, Data: 2}) || !is {
		t.Error(o, is)
	}
	want(t, "Memory", gas.Memory(32), 3)
	want(t, "Memory", gas.Memory(724*32), 3195)
	wantGrow(t, 0, api.Word{}, api.Word{33}, 64, 6, api.OK)
}

// The chapter's second example.
func TestExampleStore(t *testing.T) {
	for _, c := range []struct {
		first, now, next uint64
		warm             bool
		cost             uint64
		refund           int
	}{{0, 0, 1, false, 22100, 0}, {1, 1, 0, true, 2900, 4800}, {1, 0, 1, true, 100, -2000}} {
		cost, refund := gas.Store(api.Word{c.first}, api.Word{c.now}, api.Word{c.next}, c.warm)
		if cost != c.cost || refund != c.refund {
			t.Error(c, cost, refund)
		}
	}
}

// The chapter's third example.
func TestExampleDests(t *testing.T) {
	if l := slices.Collect(gas.Dests([]byte{0x5b, 0x60, 0x5b, 0x5b})); !slices.Equal(l, []int{0, 3}) {
		t.Error(l)
	}
}
