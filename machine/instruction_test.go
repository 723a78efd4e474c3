package machine_test

import (
	"bytes"
	"fmt"
	"slices"
	"testing"

	"cairn/api"
	"cairn/gas"
	"cairn/state"
)

// changing are the opcodes that are none in a Static frame, but CALL.
func changing() []byte {
	return []byte{0x55, 0x5d, 0xa0, 0xa1, 0xa2, 0xa3, 0xa4, 0xf0, 0xf5, 0xff}
}

// pushes are n words on the stack, of 3 gas each.
func pushes(n int) []byte { return bytes.Repeat([]byte{0x60, 1}, n) }

// atOp is a machine with so many words on its stack, and so much gas left, that stands at an opcode.
func atOp(t *testing.T, op byte, deep int, left uint64, static bool) (m machining, s *state.State) {
	t.Helper()
	f := newFrame(pushes(deep), []byte{op})
	f.Gas, f.Static = uint64(3*deep)+left, static
	s = newState()
	n := start(t, s, newEnv(), f)
	wantKind(t, "preparing", n.Run(deep), api.EventPause)
	return n, s
}

// wantFirst holds the fault of an opcode against what it should be.
func wantFirst(t *testing.T, op byte, deep int, left uint64, static bool, want api.Errno) {
	t.Helper()
	m, s := atOp(t, op, deep, left, static)
	before, held := body(m), stateText(s)
	what := fmt.Sprintf("%x over %d words with %d gas, static %v", op, deep, left, static)
	wantFault(t, what, m.Run(1), want)
	wantText(t, what, body(m), before)
	wantText(t, what, stateText(s), held)
	wantNumber(t, what+": gas", m.Gas(), 0)
	wantNumber(t, what+": steps", uint64(m.Steps()), uint64(deep+1))
}

// 15.1: what is no opcode, ahead of everything.
func TestNoOpcode(t *testing.T) {
	for i := range 256 {
		if _, is := gas.Op(byte(i)); is {
			continue
		}
		for _, static := range []bool{false, true} {
			wantFirst(t, byte(i), 0, 0, static, api.ErrOpcode)
			wantFirst(t, byte(i), 0, 1000, static, api.ErrOpcode)
			wantFirst(t, byte(i), 1024, 0, static, api.ErrOpcode)
		}
	}
}

// 15.1: a stack that is too short, ahead of Static and of gas.
func TestShortStack(t *testing.T) {
	for i := range 256 {
		o, is := gas.Op(byte(i))
		if !is || o.Pops == 0 {
			continue
		}
		for deep := range o.Pops {
			wantFirst(t, byte(i), deep, 0, false, api.ErrUnder)
			wantFirst(t, byte(i), deep, 1000000, false, api.ErrUnder)
			wantFirst(t, byte(i), deep, 1000000, true, api.ErrUnder)
			wantFirst(t, byte(i), deep, 0, true, api.ErrUnder)
		}
		m, _ := atOp(t, byte(i), o.Pops, 1000000, false)
		wantTrue(t, "just high enough: "+o.Name, m.Run(1).Err != api.ErrUnder)
	}
}

// 15.1: a stack that would be too high, ahead of Static and of gas.
func TestHighStack(t *testing.T) {
	for i := range 256 {
		o, is := gas.Op(byte(i))
		if !is {
			continue
		}
		if o.Pushes > o.Pops {
			wantFirst(t, byte(i), 1024, 0, false, api.ErrOver)
			wantFirst(t, byte(i), 1024, 1000000, true, api.ErrOver)
			m, _ := atOp(t, byte(i), 1023, 1000000, false)
			wantKind(t, "just low enough: "+o.Name, m.Run(1), api.EventPause)
			wantNumber(t, "a full stack: "+o.Name, uint64(len(m.Stack())), 1024)
		} else {
			m, _ := atOp(t, byte(i), 1024, 1000000, false)
			wantTrue(t, "no higher: "+o.Name, m.Run(1).Err != api.ErrOver)
		}
	}
}

// 15.1: Static, ahead of gas, of just those opcodes.
func TestStaticFirst(t *testing.T) {
	for i := range 256 {
		o, is := gas.Op(byte(i))
		if !is {
			continue
		}
		if slices.Contains(changing(), byte(i)) || i == 0xf1 {
			wantFirst(t, byte(i), 10, 0, true, api.ErrStatic)
			wantFirst(t, byte(i), 10, 10000000, true, api.ErrStatic)
		} else {
			m, _ := atOp(t, byte(i), 20, 1000000, true)
			wantTrue(t, "not changing: "+o.Name, m.Run(1).Err != api.ErrStatic)
		}
		m, _ := atOp(t, byte(i), 20, 1000000, false)
		wantTrue(t, "not static: "+o.Name, m.Run(1).Err != api.ErrStatic)
	}
}

// 15.1: a fault leaves nothing warm that wasn't, unless it was made so by this instruction.
func TestStaticWarmsNothing(t *testing.T) {
	for _, x := range []trial{
		{op: 0xff, words: []api.Word{of(bare)}},
		{op: 0x55, words: []api.Word{w(1), w(2)}},
		{op: 0xf1, words: []api.Word{w(0), of(bare), w(1), w(0), w(0), w(0), w(0)}},
	} {
		x.static = true
		s := wantRefused(t, "static", x, 1000000, api.ErrStatic)
		wantTrue(t, "nothing is warm", !s.Warm(bare) && !s.WarmSlot(self, w(1)))
	}
}

// 15.1: gas ahead of what the instruction itself finds wrong.
func TestGasAheadOfTheRest(t *testing.T) {
	bad := trial{op: 0x56, words: []api.Word{w(1)}}
	wantRefused(t, "JUMP", bad, 7, api.ErrGas)
	wantRefused(t, "JUMP", bad, 8, api.ErrJump)
	bad = trial{op: 0x57, words: []api.Word{w(1), w(1)}}
	wantRefused(t, "JUMPI", bad, 9, api.ErrGas)
	wantRefused(t, "JUMPI", bad, 10, api.ErrJump)
	bad = trial{op: 0x3e, words: []api.Word{w(0), w(0), w(33)}} // 3, two words of memory 6, two words 6
	wantRefused(t, "RETURNDATACOPY", bad, 14, api.ErrGas)
	wantRefused(t, "RETURNDATACOPY", bad, 15, api.ErrData)
	bad.words[2] = w(1 << 40)
	wantRefused(t, "RETURNDATACOPY of too much", bad, 30000000, api.ErrGas)
}

// plainCosts are those of the opcodes that cost nothing besides, over words that are 1.
func plainCosts() map[byte]uint64 {
	l := map[byte]uint64{0x5b: 1, 0x50: 2, 0x35: 3, 0x40: 20, 0x47: 5, 0x49: 3, 0x5c: 100, 0x5d: 100, 0x5f: 2}
	for _, op := range []byte{0x30, 0x32, 0x33, 0x34, 0x36, 0x38, 0x3a, 0x3d, 0x41, 0x42, 0x43, 0x44, 0x45, 0x46, 0x48, 0x4a, 0x58, 0x59, 0x5a} {
		l[op] = 2
	}
	for _, op := range []byte{0x02, 0x04, 0x05, 0x06, 0x07, 0x0b} {
		l[op] = 5
	}
	for _, op := range []byte{0x01, 0x03, 0x10, 0x11, 0x12, 0x13, 0x14, 0x15, 0x16, 0x17, 0x18, 0x19, 0x1a, 0x1b, 0x1c, 0x1d} {
		l[op] = 3
	}
	l[0x08], l[0x09] = 8, 8
	for op := 0x60; op < 0xa0; op++ {
		l[byte(op)] = 3
	}
	return l
}

// 15.1, 15.2: gas that is just enough, and one too little.
func TestPlainCosts(t *testing.T) {
	for op, cost := range plainCosts() {
		wantFirst(t, op, 20, 0, false, api.ErrGas)
		wantFirst(t, op, 20, cost-1, false, api.ErrGas)
		for _, more := range []uint64{0, 1, 1000} {
			m, _ := atOp(t, op, 20, cost+more, false)
			wantKind(t, fmt.Sprintf("%x with %d gas", op, cost+more), m.Run(1), api.EventPause)
			wantNumber(t, fmt.Sprintf("%x: what is left", op), m.Gas(), more)
		}
	}
}

// 15.1: behind each instruction the machine stands behind it and its data, unless it jumps.
func TestPlaces(t *testing.T) {
	for i := range 256 {
		o, is := gas.Op(byte(i))
		if !is || i == 0x56 || i == 0x57 {
			continue
		}
		f := newFrame(bytes.Repeat([]byte{0x5f}, 20), []byte{byte(i)}, make([]byte, 40))
		m := start(t, newState(), newEnv(), f)
		m.Run(20)
		wantNumber(t, o.Name+": ahead", uint64(m.Place()), 20)
		v := m.Run(1)
		want := 21 + o.Data
		if v.Kind == api.EventFault {
			want = 20
		}
		wantNumber(t, o.Name+": behind", uint64(m.Place()), uint64(want))
		wantTrue(t, o.Name+": there is no fault", v.Kind != api.EventFault)
	}
}

// 15.1: STOPs stand behind the code's end.
func TestBehindTheCode(t *testing.T) {
	for n := range 5 {
		f := newFrame(roomy(bytes.Repeat([]byte{0x5f}, n), 0xfe, 0xfe)) // what lies behind the list is no code
		f.Gas = uint64(2 * n)
		m := start(t, newState(), newEnv(), f)
		wantEvent(t, "no STOP", m.Run(100), api.Event{Kind: api.EventStop})
		wantNumber(t, "steps", uint64(m.Steps()), uint64(n+1))
		wantNumber(t, "the place", uint64(m.Place()), uint64(n))
		wantNumber(t, "the gas", m.Gas(), 0)
	}
}
