package machine_test

import (
	"fmt"
	"testing"

	"cairn/api"
	"cairn/gas"
	"cairn/state"
)

func TestSload(t *testing.T) { // 15.2
	for key, want := range map[api.Word]api.Word{w(0): {}, w(1): w(5), w(2): most(), {1, 1}: {}, most(): {}} {
		x := trial{op: 0x54, words: []api.Word{key}}
		wantPush(t, "SLOAD", x, want)
		wantCost(t, "cold", x, 2100)
		_, s, _ := x.do(t)
		wantTrue(t, "it is warm then, and nothing else", s.WarmSlot(self, key) && !s.WarmSlot(twin, key) && !s.WarmSlot(self, w(77)) && !s.Warm(self))
		wantTrue(t, "it stays warm behind the fault", wantRefused(t, "cold", x, 2099, api.ErrGas).WarmSlot(self, key))
		x.ready = func(s *state.State) { s.WarmSlot(self, key) }
		wantCost(t, "warm", x, 100)
	}
	x := trial{op: 0x54, words: []api.Word{w(1)}, ready: func(s *state.State) { s.SetSlot(self, w(1), w(9)); s.WarmSlot(twin, w(1)) }}
	wantPush(t, "SLOAD of now", x, w(9))
	wantCost(t, "another's slot is warm", x, 2100)
}

// stores are the ways of a slot, by what it had first, has now, and gets.
func stores() [][3]uint64 {
	var l [][3]uint64
	for first := range uint64(3) {
		for now := range uint64(3) {
			for next := range uint64(3) {
				l = append(l, [3]uint64{first, now, next})
			}
		}
	}
	return l
}

// 15.2: SSTORE of each way, cold and warm: what it costs, what becomes of the slot, the refund.
func TestSstore(t *testing.T) {
	key := api.Word{4, 5, 6, 7}
	for _, l := range stores() {
		for _, warm := range []bool{false, true} {
			first, now, next := w(l[0]), w(l[1]), w(l[2])
			what := fmt.Sprintf("SSTORE %v, warm %v", l, warm)
			cost, refund := gas.Store(first, now, next, warm)
			x := trial{op: 0x55, words: []api.Word{key, next}, ready: func(s *state.State) {
				s.SetSlot(self, key, first)
				s.Begin()
				s.SetSlot(self, key, now)
				s.AddRefund(50000)
				if warm {
					s.WarmSlot(self, key)
				}
			}}
			m, s, v := x.do(t)
			wantKind(t, what, v, api.EventPause)
			wantNumber(t, what, m.Gas(), 30000000-cost)
			wantNumber(t, what+": the refund", s.Refund(), uint64(50000+refund))
			wantTrue(t, what+": the slot", s.Slot(self, key) == next && s.First(self, key) == first && s.WarmSlot(self, key) && !s.Warm(self))
			least := max(cost, 2301)
			s = wantRefused(t, what, x, least-1, api.ErrGas)
			wantTrue(t, what+": warm, where it came to that", s.WarmSlot(self, key) == (warm || least > 2301))
			wantTrue(t, what+": enough", x.at(t, x.state(), least).Run(1).Kind == api.EventPause)
			for _, left := range []uint64{0, 99, 100, 2299, 2300} {
				s := wantRefused(t, what, x, left, api.ErrGas)
				wantTrue(t, what+": nothing is warm yet", s.WarmSlot(self, key) == warm)
			}
		}
	}
}

// 15.2: 2300 gas are too few, whatever it costs; 2301 are enough for what costs 100.
func TestSstoreByHand(t *testing.T) {
	same := trial{op: 0x55, words: []api.Word{w(1), w(5)}, ready: func(s *state.State) { s.WarmSlot(self, w(1)) }}
	wantRefused(t, "2300", same, 2300, api.ErrGas)
	m := same.at(t, same.state(), 2301)
	wantKind(t, "2301", m.Run(1), api.EventPause)
	wantNumber(t, "what is left", m.Gas(), 2201)
	fresh := trial{op: 0x55, words: []api.Word{w(9), w(5)}}
	wantCost(t, "from 0", fresh, 22100)
	cleared := trial{op: 0x55, words: []api.Word{w(1), w(0)}}
	wantCost(t, "to 0", cleared, 5000)
	_, s, _ := cleared.do(t)
	wantNumber(t, "the refund", s.Refund(), 4800)
	m, v := ran(t, with(0x55, w(1), w(0)), with(0x55, w(1), w(7)), with(0x55, w(1), w(5)))
	wantKind(t, "there and back", v, api.EventStop)
	wantNumber(t, "there and back", api.MaxGas-m.Gas(), 6*3+5000+100+100)
	wantTrue(t, "of Self alone", s.Slot(twin, w(1)) == w(6))
	made := trial{op: 0x55, words: []api.Word{w(1), w(0)}, ready: func(s *state.State) { s.Create(self); s.SetSlot(self, w(1), w(3)) }}
	m, s, _ = made.do(t)
	wantNumber(t, "of one that is fresh", m.Gas(), 30000000-2200)
	wantNumber(t, "of one that is fresh: the refund", s.Refund(), 19900)
}

func TestPassing(t *testing.T) { // 15.2
	ready := func(s *state.State) {
		s.SetPassing(self, w(1), w(8))
		s.SetPassing(twin, w(2), w(9))
	}
	wantPush(t, "TLOAD", trial{op: 0x5c, words: []api.Word{w(1)}, ready: ready}, w(8))
	wantPush(t, "TLOAD of another's", trial{op: 0x5c, words: []api.Word{w(2)}, ready: ready}, w(0))
	wantPush(t, "TLOAD of a slot that stays", trial{op: 0x5c, words: []api.Word{w(2)}}, w(0))
	m, s, v := trial{op: 0x5d, words: []api.Word{most(), api.Word{1, 2, 3, 4}}, ready: ready}.do(t)
	wantKind(t, "TSTORE", v, api.EventPause)
	wantTrue(t, "TSTORE", s.Passing(self, most()) == api.Word{1, 2, 3, 4} && s.Passing(self, w(1)) == w(8) && s.Slot(self, most()) == w(0))
	wantNumber(t, "TSTORE", m.Gas(), 30000000-100)
	wantTrue(t, "nothing is warm, nothing is refunded", !s.WarmSlot(self, most()) && s.Refund() == 0)
	m, _ = ran(t, with(0x5d, w(3), w(4)), with(0x5d, w(3), w(0)), with(0x5c, w(3)))
	wantStack(t, "back to 0", m, w(0))
	wantPush(t, "TLOAD in a Static frame", trial{op: 0x5c, words: []api.Word{w(1)}, ready: ready, static: true}, w(8))
}

func TestJumps(t *testing.T) { // 15.2
	// 0: PUSH2 2 bytes, JUMP, 4: JUMPDEST, 5: PUSH2 5b5b, 8: JUMPDEST, 9: PUSH32 cut off by the end
	code := func(to uint64, op byte) []byte {
		return append([]byte{0x61, byte(to >> 8), byte(to), op, 0x5b, 0x61, 0x5b, 0x5b, 0x5b, 0x7f}, 0x5b, 0x5b)
	}
	good := map[uint64]bool{4: true, 8: true}
	for to := range uint64(300) {
		m := start(t, newState(), newEnv(), newFrame(code(to, 0x56)))
		m.Run(1)
		before := body(m)
		v := m.Run(1)
		if good[to] {
			wantEvent(t, "JUMP", v, api.Event{Kind: api.EventPause})
			wantNumber(t, "JUMP", uint64(m.Place()), to)
			wantStack(t, "JUMP", m)
			wantNumber(t, "JUMP", api.MaxGas-m.Gas(), 3+8)
			m.Run(1)
			wantNumber(t, "behind the JUMPDEST", uint64(m.Place()), to+1)
			wantNumber(t, "behind the JUMPDEST", api.MaxGas-m.Gas(), 3+8+1)
		} else {
			wantFault(t, fmt.Sprintf("JUMP to %d", to), v, api.ErrJump)
			wantText(t, "JUMP", body(m), before)
		}
	}
}

// jumpi is a JUMPI behind 66 bytes, with JUMPDESTs at 67 and 71.
func jumpi(to, is api.Word) trial {
	return trial{op: 0x57, words: []api.Word{to, is}, behind: []byte{0x5b, 0x61, 0x5b, 0x5b, 0x5b}}
}

func TestJumpi(t *testing.T) { // 15.2
	for _, is := range []api.Word{w(1), w(2), {0, 1}, {0, 0, 0, 1 << 63}, most()} {
		for to, place := range map[api.Word]int{w(67): 67, w(71): 71} {
			m, _, v := jumpi(to, is).do(t)
			wantEvent(t, "JUMPI", v, api.Event{Kind: api.EventPause})
			wantNumber(t, "JUMPI", uint64(m.Place()), uint64(place))
			wantStack(t, "JUMPI", m)
		}
		for _, to := range []api.Word{w(0), w(66), w(68), w(69), w(70), w(72), w(1000), {67, 1}, {67, 0, 0, 1}, w(1<<63 + 67), most()} {
			wantRefused(t, "JUMPI to a bad place", jumpi(to, is), 1000, api.ErrJump)
		}
	}
	for _, to := range []api.Word{w(67), w(0), w(69), w(1000), {67, 1}, w(1 << 63), most()} { // nothing is asked
		m, _, v := jumpi(to, w(0)).do(t)
		wantEvent(t, "JUMPI with 0", v, api.Event{Kind: api.EventPause})
		wantNumber(t, "JUMPI with 0", uint64(m.Place()), 67)
		wantStack(t, "JUMPI with 0", m)
		wantCost(t, "JUMPI with 0", jumpi(to, w(0)), 10)
	}
	wantCost(t, "JUMPI", jumpi(w(67), w(1)), 10)
}

func TestJumpFarAway(t *testing.T) { // 15.2: a place is a word, none of which is left out
	for _, to := range []api.Word{{34, 1}, {34, 0, 1}, {34, 0, 0, 1}, w(1<<32 + 34), w(1<<63 + 34), w(1 << 63), w(1<<64 - 1), most()} {
		wantRefused(t, "JUMP far away", trial{op: 0x56, words: []api.Word{to}, behind: []byte{0x5b}}, 1000, api.ErrJump)
	}
	m, _, _ := trial{op: 0x56, words: []api.Word{w(34)}, behind: []byte{0x5b}}.do(t)
	wantNumber(t, "JUMP", uint64(m.Place()), 34)
	wantRefused(t, "JUMP to the code's end", trial{op: 0x56, words: []api.Word{w(34)}}, 1000, api.ErrJump)
	f := newFrame()
	f.Code = roomy(with(0x56, w(34)), 0x5b)
	wantFault(t, "behind the code's length", start(t, newState(), newEnv(), f).Run(5), api.ErrJump)
}

func TestALoopThatCounts(t *testing.T) { // jumps back, jumps that end
	// PUSH1 10; 2: JUMPDEST, PUSH1 1, SWAP1, SUB, DUP1, PUSH1 2, JUMPI; MSIZE
	m, v := ran(t, []byte{0x60, 10, 0x5b, 0x60, 1, 0x90, 0x03, 0x80, 0x60, 2, 0x57, 0x59})
	wantKind(t, "a loop", v, api.EventStop)
	wantStack(t, "a loop", m, w(0), w(0))
	wantNumber(t, "its steps", uint64(m.Steps()), 1+10*7+2)
	wantNumber(t, "its gas", api.MaxGas-m.Gas(), 3+10*(1+3+3+3+3+3+10)+2)
}
