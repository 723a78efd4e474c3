package gas_test

import (
	"testing"

	"cairn/api"
	"cairn/gas"
)

// P14.3
func TestAccountAndSlot(t *testing.T) {
	want(t, "Account", gas.Account(true), 100)
	want(t, "Account", gas.Account(false), 2600)
	want(t, "Slot", gas.Slot(true), 100)
	want(t, "Slot", gas.Slot(false), 2100)
}

// ways are all ways in which first, now and next may be alike: numbers stand for values, 0 for 0.
func ways() []struct{ first, now, next, cost, refund int } {
	return []struct{ first, now, next, cost, refund int }{
		{0, 0, 0, 100, 0},
		{0, 0, 1, 20000, 0},
		{0, 1, 0, 100, 19900},
		{0, 1, 1, 100, 0},
		{0, 1, 2, 100, 0},
		{1, 1, 1, 100, 0},
		{1, 1, 0, 2900, 4800},
		{1, 1, 2, 2900, 0},
		{1, 0, 0, 100, 0},
		{1, 0, 1, 100, -2000},
		{1, 0, 2, 100, -4800},
		{1, 2, 2, 100, 0},
		{1, 2, 0, 100, 4800},
		{1, 2, 1, 100, 2800},
		{1, 2, 3, 100, 0},
	}
}

// P14.4: each way, cold and warm, with values that differ in any of their limbs.
func TestStore(t *testing.T) {
	some := []api.Word{{1}, {2}, {1 << 63}, {0, 1}, {1, 1}, {0, 0, 1}, {0, 0, 0, 1}, {1, 0, 0, 1}, {0, 0, 0, 1 << 63}, top}
	for i, x := range some {
		for j, y := range some {
			z := some[(max(i, j)+1)%len(some)]
			if i == j || z == x || z == y {
				continue
			}
			values := []api.Word{{}, x, y, z}
			for _, c := range ways() {
				wantStore(t, values[c.first], values[c.now], values[c.next], c.cost, c.refund)
			}
		}
	}
}

// wantStore holds Store of a slot, warm and cold, against what a warm one should cost.
func wantStore(t *testing.T, first, now, next api.Word, cost, refund int) {
	t.Helper()
	for _, warm := range []bool{true, false} {
		should := uint64(cost)
		if !warm {
			should += 2100
		}
		if c, r := gas.Store(first, now, next, warm); c != should || r != refund {
			t.Fatalf("Store(%d, %d, %d, %v): %d, %d, not %d, %d", first, now, next, warm, c, r, should, refund)
		}
	}
}

// P14.4: the cases of EIP-3529, by what they use beside the gas of their PUSHes.
func TestStoreKnownElsewhere(t *testing.T) {
	for _, c := range []struct {
		values []uint64 // the first one, and those that are stored
		cost   uint64
		refund int
	}{
		{[]uint64{0, 0, 0}, 200, 0},
		{[]uint64{0, 0, 1}, 20100, 0},
		{[]uint64{0, 1, 0}, 20100, 19900},
		{[]uint64{0, 1, 2}, 20100, 0},
		{[]uint64{0, 1, 1}, 20100, 0},
		{[]uint64{1, 0, 0}, 3000, 4800},
		{[]uint64{1, 0, 1}, 3000, 2800},
		{[]uint64{1, 0, 2}, 3000, 0},
		{[]uint64{1, 2, 0}, 3000, 4800},
		{[]uint64{1, 2, 3}, 3000, 0},
		{[]uint64{1, 2, 1}, 3000, 2800},
		{[]uint64{1, 2, 2}, 3000, 0},
		{[]uint64{1, 1, 0}, 3000, 4800},
		{[]uint64{1, 1, 2}, 3000, 0},
		{[]uint64{1, 1, 1}, 200, 0},
		{[]uint64{0, 1, 0, 1}, 40100, 19900},
		{[]uint64{1, 0, 1, 0}, 5900, 7600},
	} {
		var cost uint64
		refund := 0
		for i := 1; i < len(c.values); i++ {
			n, r := gas.Store(api.Word{c.values[0]}, api.Word{c.values[i-1]}, api.Word{c.values[i]}, true)
			cost, refund = cost+n, refund+r
		}
		if cost != c.cost || refund != c.refund {
			t.Errorf("%d: %d, %d, not %d, %d", c.values, cost, refund, c.cost, c.refund)
		}
	}
}
