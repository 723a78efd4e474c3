package gas_test

import (
	"testing"

	"cairn/api"
	"cairn/gas"
)

// P14.5: all eight.
func TestCall(t *testing.T) {
	for _, c := range []struct {
		warm, paid, fresh bool
		cost              uint64
	}{
		{true, false, false, 100},
		{true, false, true, 100},
		{true, true, false, 9100},
		{true, true, true, 34100},
		{false, false, false, 2600},
		{false, false, true, 2600},
		{false, true, false, 11600},
		{false, true, true, 36600},
	} {
		want(t, "Call", gas.Call(c.warm, c.paid, c.fresh), c.cost, c.warm, c.paid, c.fresh)
	}
}

// P14.5
func TestForward(t *testing.T) {
	for _, c := range []struct {
		left  uint64
		asked api.Word
		on    uint64
	}{
		{0, api.Word{}, 0},
		{0, api.Word{1}, 0},
		{0, top, 0},
		{1, api.Word{1}, 1},
		{63, api.Word{62}, 62},
		{63, api.Word{63}, 63},
		{63, api.Word{64}, 63},
		{63, top, 63},
		{64, api.Word{}, 0},
		{64, api.Word{62}, 62},
		{64, api.Word{63}, 63},
		{64, api.Word{64}, 63},
		{64, top, 63},
		{65, top, 64},
		{127, top, 126},
		{128, top, 126},
		{33554432, api.Word{33554432}, 33030144},
		{33554432, api.Word{33030143}, 33030143},
		{1<<64 - 1, api.Word{1<<64 - 1}, 63 << 58},
		{1<<64 - 1, api.Word{63<<58 - 1}, 63<<58 - 1},
	} {
		want(t, "Forward", gas.Forward(c.left, c.asked), c.on, c.left, c.asked)
	}
}

// P14.5: asked words whose lowest limb alone is small.
func TestForwardAskedForMore(t *testing.T) {
	for _, asked := range []api.Word{{0, 1}, {5, 1}, {0, 0, 1}, {5, 0, 1}, {0, 0, 0, 1}, {5, 0, 0, 1}, {5, 0, 0, 1 << 63}, top} {
		for _, left := range []uint64{0, 1, 63, 64, 6400, 33554432, 1<<64 - 1} {
			want(t, "Forward", gas.Forward(left, asked), left-left/64, left, asked)
		}
	}
}

// P14.5
func TestRefund(t *testing.T) {
	for _, c := range []struct {
		used   uint64
		refund int
		back   uint64
	}{
		{0, 0, 0},
		{0, 1, 0},
		{4, 1, 0},
		{5, 0, 0},
		{5, 1, 1},
		{5, 2, 1},
		{9, 2, 1},
		{10, 2, 2},
		{100, 19, 19},
		{100, 20, 20},
		{100, 21, 20},
		{104, 21, 20},
		{100, 1<<63 - 1, 20},
		{100, -1, 0},
		{100, -20, 0},
		{1<<64 - 1, -1, 0},
		{1<<64 - 1, -1 << 63, 0},
		{1<<64 - 1, 4800, 4800},
		{1<<64 - 1, 1<<63 - 1, 3689348814741910323},
		{33554432, 6710886, 6710886},
		{33554432, 6710887, 6710886},
	} {
		want(t, "Refund", gas.Refund(c.used, c.refund), c.back, c.used, c.refund)
	}
}
