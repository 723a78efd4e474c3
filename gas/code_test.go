package gas_test

import (
	"bytes"
	"iter"
	"slices"
	"testing"

	"cairn/gas"
)

// step is an instruction.
type step struct {
	place int
	op    byte
}

// steps are all that Codes tells.
func steps(l iter.Seq2[int, byte]) []step {
	var told []step
	for place, op := range l {
		told = append(told, step{place, op})
	}
	return told
}

// wantCode holds Codes, Dests and Dest at all places of code, and around it, against what they should tell.
func wantCode(t *testing.T, code []byte, should []step) {
	t.Helper()
	if l := steps(gas.Codes(code)); !slices.Equal(l, should) {
		t.Fatalf("Codes(%x): %v, not %v", code, l, should)
	}
	var dests []int
	for _, s := range should {
		if s.op == 0x5b {
			dests = append(dests, s.place)
		}
	}
	if l := slices.Collect(gas.Dests(code)); !slices.Equal(l, dests) {
		t.Fatalf("Dests(%x): %v, not %v", code, l, dests)
	}
	for at := -40; at < len(code)+40; at++ {
		if gas.Dest(code, at) != slices.Contains(dests, at) {
			t.Fatalf("Dest(%x, %d): %v", code, at, gas.Dest(code, at))
		}
	}
}

// run is a PUSH of n bytes, so many of them 5b.
func run(n, there int) []byte {
	return append([]byte{byte(0x5f + n)}, bytes.Repeat([]byte{0x5b}, there)...)
}

// P14.6: codes gone over by hand.
func TestCode(t *testing.T) {
	for _, c := range []struct {
		code []byte
		told []step
	}{
		{nil, nil},
		{[]byte{}, nil},
		{[]byte{0x5b}, []step{{0, 0x5b}}},
		{[]byte{0x00}, []step{{0, 0x00}}},
		{[]byte{0x60}, []step{{0, 0x60}}},
		{[]byte{0x60, 0x5b}, []step{{0, 0x60}}},
		{[]byte{0x5b, 0x60, 0x5b, 0x5b}, []step{{0, 0x5b}, {1, 0x60}, {3, 0x5b}}},
		{[]byte{0x5f, 0x5b}, []step{{0, 0x5f}, {1, 0x5b}}}, // PUSH0 has no data
		{[]byte{0x61, 0x5b, 0x60, 0x5b}, []step{{0, 0x61}, {3, 0x5b}}},
		{[]byte{0x80, 0x5b, 0x9f, 0x5b, 0xa4, 0x5b}, []step{{0, 0x80}, {1, 0x5b}, {2, 0x9f}, {3, 0x5b}, {4, 0xa4}, {5, 0x5b}}},
		{[]byte{0x00, 0xfe, 0x0c, 0x5b, 0xff, 0x5b}, []step{{0, 0x00}, {1, 0xfe}, {2, 0x0c}, {3, 0x5b}, {4, 0xff}, {5, 0x5b}}}, // it goes on behind a STOP, and what is no opcode
		{[]byte{0x60, 0x60, 0x60, 0x60, 0x5b}, []step{{0, 0x60}, {2, 0x60}, {4, 0x5b}}},
	} {
		wantCode(t, c.code, c.told)
	}
}

// P14.6: each PUSH, with its data whole, cut off, and a JUMPDEST right behind it.
func TestCodeOfPushes(t *testing.T) {
	for n := 1; n <= 32; n++ {
		op := byte(0x5f + n)
		for there := range n + 1 {
			wantCode(t, run(n, there), []step{{0, op}})
		}
		wantCode(t, run(n, n+2), []step{{0, op}, {n + 1, 0x5b}, {n + 2, 0x5b}})
		wantCode(t, slices.Concat([]byte{0x5b}, run(n, n), []byte{0x5b}, run(32, 3)), []step{{0, 0x5b}, {1, op}, {n + 2, 0x5b}, {n + 3, 0x7f}})
	}
}

// P14.6: each opcode that is no PUSH has nothing behind it.
func TestCodeOfOthers(t *testing.T) {
	for i := range 256 {
		if i < 0x60 || i > 0x7f {
			wantCode(t, []byte{byte(i), 0x5b}, []step{{0, byte(i)}, {1, 0x5b}})
		}
	}
}

// P14.6: places that are far away.
func TestDestFarAway(t *testing.T) {
	code := []byte{0x5b, 0x5b, 0x5b}
	for _, at := range []int{-1, -3, 3, 4, 1 << 31, 1 << 32, 1<<32 + 1, 1<<63 - 1, -1 << 63, -1<<63 + 1} {
		for _, c := range [][]byte{nil, code} {
			if gas.Dest(c, at) {
				t.Errorf("Dest(%x, %d)", c, at)
			}
		}
	}
}

// P14.6: whoever leaves is asked no more, and may begin again.
func TestCodeLeftEarly(t *testing.T) {
	code := []byte{0x5b, 0x60, 0x5b, 0x5b, 0x01, 0x5b}
	codes, dests := gas.Codes(code), gas.Dests(code)
	for n := 1; n <= 5; n++ {
		told := 0
		codes(func(int, byte) bool {
			told++
			return told < n
		})
		if told != n {
			t.Errorf("Codes, left at %d: %d", n, told)
		}
	}
	for n := 1; n <= 3; n++ {
		told := 0
		dests(func(int) bool {
			told++
			return told < n
		})
		if told != n {
			t.Errorf("Dests, left at %d: %d", n, told)
		}
	}
	if l := steps(codes); !slices.Equal(l, []step{{0, 0x5b}, {1, 0x60}, {3, 0x5b}, {4, 0x01}, {5, 0x5b}}) {
		t.Error(l)
	}
	if l := slices.Collect(dests); !slices.Equal(l, []int{0, 3, 5}) {
		t.Error(l)
	}
}

// P14.6: two who range over the same one do not meet.
func TestCodeWithinCode(t *testing.T) {
	codes := gas.Codes([]byte{0x5b, 0x60, 0x01, 0x5b})
	told := 0
	for range codes {
		told += len(steps(codes))
	}
	if told != 9 {
		t.Error(told)
	}
}
