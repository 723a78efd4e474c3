package gas_test

import (
	"math/big"
	"slices"
	"testing"

	"cairn/api"
	"cairn/gas"
)

// P14.7: a memory never falls, and steps cost together what one step does.
func TestMemoryIsDear(t *testing.T) {
	s := source{at: 3}
	for range 2000 {
		size, sum, furthest := uint64(0), uint64(0), uint64(0)
		for range 1 + s.below(12) {
			at, long := s.any()%(mostMemory/2), s.any()%(mostMemory/2)
			grown, cost, e := gas.Grow(size, api.Word{at}, api.Word{long})
			if e != api.OK || grown < size || long > 0 && grown < at+long {
				t.Fatalf("Grow(%d, %d, %d): %d, %d, %d", size, at, long, grown, cost, e)
			}
			if long > 0 {
				furthest = max(furthest, at+long)
			}
			size, sum = grown, sum+cost
			wantGrow(t, 0, api.Word{}, api.Word{furthest}, size, sum, api.OK)
			want(t, "Memory", gas.Memory(size), sum, size)
		}
	}
}

// P14.7: of any size to begin with, too.
func TestTwoStepsCostWhatOneDoes(t *testing.T) {
	for _, size := range sizes() {
		for _, mid := range sizes() {
			for _, end := range sizes() {
				if mid > end || mid == 0 {
					continue
				}
				size1, cost1, _ := gas.Grow(size, api.Word{}, api.Word{mid})
				size2, cost2, _ := gas.Grow(size1, api.Word{}, api.Word{end})
				wantGrow(t, size, api.Word{}, api.Word{end}, size2, cost1+cost2, api.OK)
			}
		}
	}
}

// walk is a slot in a transaction.
type walk struct {
	first, now api.Word
	warm       bool
	refund     int
}

// to gives the slot its next value, and holds what it costs against P14.8.
func (w *walk) to(t *testing.T, next api.Word) {
	t.Helper()
	cost, refund := gas.Store(w.first, w.now, next, w.warm)
	if !w.warm {
		cost -= 2100
	}
	off := w.now == w.first && next != w.first // the first step of a way off
	if off == (cost <= 100) {
		t.Fatalf("from %d, at %d, to %d: %d", w.first, w.now, next, cost)
	}
	w.now, w.warm, w.refund = next, true, w.refund+refund
	if w.refund < 0 {
		t.Fatalf("from %d, to %d: refunds of %d", w.first, next, w.refund)
	}
}

// P14.8: every way of up to seven steps over four values, from each of them.
func TestSlots(t *testing.T) {
	values := []api.Word{{}, {1}, {0, 0, 0, 1}, top}
	var on func(w walk, left int)
	on = func(w walk, left int) {
		if left == 0 {
			return
		}
		for _, next := range values {
			further := w
			further.to(t, next)
			on(further, left-1)
		}
	}
	for _, first := range values {
		on(walk{first: first, now: first}, 7)
	}
}

// P14.8: a way off and back has as refunds what its first step cost, less what one back costs, and no slot is cleared for nothing.
func TestSlotsThereAndBack(t *testing.T) {
	for _, c := range []struct {
		values []uint64
		refund int
	}{{[]uint64{0, 1, 0}, 19900}, {[]uint64{0, 1, 2, 1, 0, 0}, 19900}, {[]uint64{5, 0, 5}, 2800}, {[]uint64{5, 0, 1, 0, 5}, 2800}, {[]uint64{5, 1, 2, 0, 3, 5}, 2800}, {[]uint64{5, 0, 5, 0, 5}, 5600}, {[]uint64{5, 0, 5, 0}, 7600}} {
		w := walk{first: api.Word{c.values[0]}, now: api.Word{c.values[0]}}
		for _, next := range c.values[1:] {
			w.to(t, api.Word{next})
		}
		if w.refund != c.refund {
			t.Errorf("%d: %d, not %d", c.values, w.refund, c.refund)
		}
	}
}

// P14.9
func TestThereIsAlwaysARest(t *testing.T) {
	s := source{at: 4}
	for range 20000 {
		left, asked := s.any(), api.Word{s.any()}
		if s.below(4) == 0 {
			asked[s.below(4)] = s.any()
		}
		on := gas.Forward(left, asked)
		if on > left || left-on < left/64 || number(asked).Cmp(new(big.Int).SetUint64(on)) < 0 {
			t.Fatalf("Forward(%d, %d): %d", left, asked, on)
		}
		used, refund := s.any(), int(s.any())
		back := gas.Refund(used, refund)
		if back > used/5 || refund < 0 && back > 0 || refund >= 0 && back > uint64(refund) {
			t.Fatalf("Refund(%d, %d): %d", used, refund, back)
		}
	}
}

// P14.10: each instruction begins behind the data of the one ahead.
func TestAllOfTheCode(t *testing.T) {
	s := source{at: 5}
	for range 300 {
		code := s.bytes(s.below(300))
		next := 0
		var dests []int
		for place, op := range gas.Codes(code) {
			o, _ := gas.Op(op)
			if place != next || op != code[place] {
				t.Fatalf("Codes(%x): %x at %d, not at %d", code, op, place, next)
			}
			next = place + 1 + o.Data
			if op == 0x5b {
				dests = append(dests, place)
			}
		}
		if next < len(code) {
			t.Fatalf("Codes(%x) ends at %d", code, next)
		}
		told := slices.Collect(gas.Dests(code))
		if !slices.Equal(told, dests) || !slices.IsSorted(told) {
			t.Fatalf("Dests(%x): %v, not %v", code, told, dests)
		}
		for at := -2; at < len(code)+2; at++ {
			if gas.Dest(code, at) != slices.Contains(dests, at) {
				t.Fatalf("Dest(%x, %d)", code, at)
			}
		}
	}
}

// P14.10: code of the greatest length, and longer.
func TestLongCode(t *testing.T) {
	for _, n := range []int{24576, 49152, 1 << 20} {
		code := make([]byte, n)
		for i := range code {
			code[i] = 0x5b
		}
		code[n-40] = 0x7f
		if l := slices.Collect(gas.Dests(code)); len(l) != n-33 || l[n-34] != n-1 {
			t.Error(n, len(l))
		}
		if !gas.Dest(code, n-7) || gas.Dest(code, n-8) || gas.Dest(code, n-40) || !gas.Dest(code, n-41) {
			t.Error(n)
		}
	}
}
