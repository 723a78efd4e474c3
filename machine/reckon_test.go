package machine_test

import (
	"fmt"
	"math/big"
	"testing"

	"cairn/api"
)

// wantReckoned holds an opcode of chapter 2 over words against what whole numbers come to.
func wantReckoned(t *testing.T, op byte, words ...api.Word) {
	t.Helper()
	m, v := ran(t, with(op, words...))
	wantKind(t, "reckoning", v, api.EventStop)
	var l []*big.Int
	for _, x := range words {
		l = append(l, bigOf(x))
	}
	want := wordOf(new(big.Int).Mod(reckoned(op, append(l, nil, nil)), two(256)))
	wantStack(t, fmt.Sprintf("%x over %v", op, words), m, want)
}

// 15.2: ADD to SIGNEXTEND, LT to SAR.
func TestReckoning(t *testing.T) {
	for op := byte(0x01); op <= 0x1d; op++ {
		if op > 0x0b && op < 0x10 {
			continue
		}
		for _, a := range edges() {
			for _, b := range edges() {
				switch op {
				case 0x08, 0x09:
					wantReckoned(t, op, a, b, w(0))
					wantReckoned(t, op, a, b, w(7))
					wantReckoned(t, op, a, w(1<<40), b)
				case 0x15, 0x19:
					wantReckoned(t, op, a)
				default:
					wantReckoned(t, op, a, b)
				}
			}
		}
	}
}

// 15.2: the chapters' own words, told by hand.
func TestReckoningByHand(t *testing.T) {
	less := func(n uint64) api.Word { return wordOf(new(big.Int).Sub(two(256), new(big.Int).SetUint64(n))) }
	for _, x := range []struct {
		op    byte
		words []api.Word
		want  api.Word
	}{
		{0x01, []api.Word{most(), w(2)}, w(1)},
		{0x02, []api.Word{w(6), w(7)}, w(42)},
		{0x03, []api.Word{w(5), w(3)}, w(2)},
		{0x03, []api.Word{w(0), w(1)}, most()},
		{0x04, []api.Word{w(7), w(2)}, w(3)},
		{0x04, []api.Word{w(7), w(0)}, w(0)},
		{0x05, []api.Word{less(7), w(2)}, less(3)},
		{0x06, []api.Word{w(7), w(4)}, w(3)},
		{0x07, []api.Word{less(7), w(2)}, less(1)},
		{0x08, []api.Word{most(), w(2), w(7)}, wordOf(new(big.Int).Mod(new(big.Int).Add(two(256), big.NewInt(1)), big.NewInt(7)))},
		{0x09, []api.Word{most(), most(), w(12)}, w(9)},
		{0x0a, []api.Word{w(3), w(5)}, w(243)},
		{0x0b, []api.Word{w(0), w(255)}, most()},
		{0x0b, []api.Word{w(0), w(127)}, w(127)},
		{0x10, []api.Word{w(1), w(2)}, w(1)},
		{0x10, []api.Word{w(2), w(2)}, w(0)},
		{0x11, []api.Word{w(2), w(1)}, w(1)},
		{0x11, []api.Word{w(2), w(2)}, w(0)},
		{0x12, []api.Word{most(), w(0)}, w(1)},
		{0x12, []api.Word{w(0), most()}, w(0)},
		{0x13, []api.Word{w(0), most()}, w(1)},
		{0x13, []api.Word{most(), most()}, w(0)},
		{0x14, []api.Word{w(4), w(4)}, w(1)},
		{0x14, []api.Word{w(4), {4, 1}}, w(0)},
		{0x15, []api.Word{w(0)}, w(1)},
		{0x15, []api.Word{{0, 0, 0, 1}}, w(0)},
		{0x16, []api.Word{w(12), w(10)}, w(8)},
		{0x17, []api.Word{w(12), w(10)}, w(14)},
		{0x18, []api.Word{w(12), w(10)}, w(6)},
		{0x19, []api.Word{w(0)}, most()},
		{0x1a, []api.Word{w(31), w(258)}, w(2)},
		{0x1a, []api.Word{w(30), w(258)}, w(1)},
		{0x1a, []api.Word{w(32), most()}, w(0)},
		{0x1b, []api.Word{w(4), w(1)}, w(16)},
		{0x1c, []api.Word{w(4), w(16)}, w(1)},
		{0x1d, []api.Word{w(255), {0, 0, 0, 1 << 63}}, most()},
		{0x1d, []api.Word{w(4), w(16)}, w(1)},
	} {
		wantPush(t, fmt.Sprintf("%x over %v", x.op, x.words), trial{op: x.op, words: x.words}, x.want)
	}
}

// 15.2: EXP costs more for each byte of b.
func TestCostOfExp(t *testing.T) {
	for i, b := range []api.Word{w(0), w(255), w(256), {0, 1}, most()} {
		x := trial{op: 0x0a, words: []api.Word{w(3), b}}
		if bytes := []uint64{0, 1, 2, 9, 32}[i]; bytes > 0 {
			wantCost(t, "EXP", x, 10, 50*bytes)
		} else {
			wantCost(t, "EXP", x, 10)
		}
	}
	wantCost(t, "EXP of a great number", trial{op: 0x0a, words: []api.Word{most(), w(1)}}, 10, 50)
}

// 15.2: POP, DUP, SWAP, PUSH.
func TestStackOpcodes(t *testing.T) {
	var words []byte
	var all []api.Word
	for i := range 20 {
		words = append(words, push(api.Word{uint64(i), 1, 2, 3})...)
		all = append(all, api.Word{uint64(i), 1, 2, 3})
	}
	top := func(n int) api.Word { return all[len(all)-n] }
	m, _ := ran(t, words, []byte{0x50})
	wantStack(t, "POP", m, all[:19]...)
	for n := 1; n <= 16; n++ {
		m, _ = ran(t, words, []byte{byte(0x7f + n)})
		wantStack(t, fmt.Sprintf("DUP%d", n), m, append(all[:20:20], top(n))...)
		m, _ = ran(t, words, []byte{byte(0x8f + n)})
		want := append([]api.Word{}, all...)
		want[19], want[19-n] = want[19-n], want[19]
		wantStack(t, fmt.Sprintf("SWAP%d", n), m, want...)
	}
}

func TestPush(t *testing.T) { // 15.2: data beyond the code's end are 0
	m, v := ran(t, []byte{0x5f})
	wantKind(t, "PUSH0", v, api.EventStop)
	wantStack(t, "PUSH0", m, w(0))
	for n := 1; n <= 32; n++ {
		data := input(n)
		m, v = ran(t, []byte{byte(0x5f + n)}, data, []byte{0x60, 9})
		wantKind(t, "PUSH", v, api.EventStop)
		wantStack(t, "PUSH", m, ofBytes(data), w(9))
		for there := range n {
			f := newFrame()
			f.Code = roomy(append([]byte{byte(0x5f + n)}, data[:there]...), 0xee, 0xee, 0xee)
			m = start(t, newState(), newEnv(), f)
			wantEvent(t, "PUSH", m.Run(1), api.Event{Kind: api.EventPause})
			wantNumber(t, "the place is the code's end", uint64(m.Place()), uint64(1+there))
			wantEvent(t, "PUSH", m.Run(1), api.Event{Kind: api.EventStop})
			wantStack(t, fmt.Sprintf("PUSH%d cut off at %d", n, there), m, ofBytes(append(data[:there:there], make([]byte, n-there)...)))
		}
	}
}
