package machine_test

import (
	"fmt"
	"testing"

	"cairn/api"
	"cairn/gas"
	"cairn/machine"
	"cairn/state"
)

// P1: no code makes a machine panic, or go on for ever.
func TestAnyCode(t *testing.T) {
	for i := range 3000 {
		r := row(i + 20000)
		code := r.bytes(r.below(300))
		for j := range code { // often what takes words, behind words
			if r.is(2) {
				code[j] = byte(0x5f + r.below(34))
			}
		}
		f := api.Frame{Self: self, Code: code, Input: r.bytes(r.below(50)), Gas: uint64(r.below(100000)), Static: r.is(2)}
		m := start(t, newState(), api.Env{Number: uint64(r.below(10))}, f)
		for range 50 {
			v := ended(t, m)
			if v.Kind != api.EventAsk {
				break
			}
			wantErrno(t, "Reply", m.Reply(r.reply(v.Ask)), api.OK)
		}
	}
}

// P15.7: of all opcodes none but STOP, RETURN and REVERT cost nothing.
func TestNothingIsFree(t *testing.T) {
	for i := range 256 {
		o, is := gas.Op(byte(i))
		if !is {
			continue
		}
		m := start(t, newState(), newEnv(), newFrame(zeros(o.Pops), []byte{byte(i)}))
		m.Run(o.Pops)
		before := m.Gas()
		v := m.Run(1)
		wantTrue(t, o.Name+": what is free", (before-m.Gas() == 0) == (i == 0 || i == 0xf3 || i == 0xfd))
		wantTrue(t, o.Name+": an event", v.Kind != 0)
	}
}

// zeros are PUSH0s.
func zeros(n int) []byte {
	b := make([]byte, n)
	for i := range b {
		b[i] = 0x5f
	}
	return b
}

// P15.7: the stack is full, and no higher.
func TestFullStack(t *testing.T) {
	f := newFrame([]byte{0x5b, 0x58, 0x5f, 0x56}) // PC, and back to the beginning
	m := start(t, newState(), newEnv(), f)
	wantFault(t, "too high", ended(t, m), api.ErrOver)
	wantNumber(t, "the stack", uint64(len(m.Stack())), 1024)
	wantNumber(t, "the place", uint64(m.Place()), 2)
	wantNumber(t, "the gas", m.Gas(), 0)
}

// P15.7: the memory takes as much as there is gas for, and no more.
func TestGreatMemory(t *testing.T) {
	words := uint64(0)
	for memoryCost(words+1) <= 30000000 {
		words++
	}
	x := trial{op: 0x51, words: []api.Word{w(32*words - 32)}}
	m := x.at(t, x.state(), 3+memoryCost(words))
	wantKind(t, "as much as there is gas for", m.Run(1), api.EventPause)
	wantNumber(t, "all of it", m.Gas(), 0)
	wantNumber(t, "the memory", uint64(len(m.Memory())), 32*words)
	x.words[0] = w(32*words - 31)
	wantRefused(t, "one more", x, 3+memoryCost(words), api.ErrGas)
}

// pure are the opcodes up to PUSH0, and those that are numbered, that ask no state.
func pure(op byte) bool {
	switch op {
	case 0x31, 0x3b, 0x3c, 0x3f, 0x47, 0x54, 0x55, 0x5c, 0x5d, 0x30, 0x33:
		return false
	}
	return op < 0xa0 || op == 0xf3 || op == 0xfd
}

// P15.8: code without storage, logs, calls does the same over any state and any address that it does not ask for.
func TestPure(t *testing.T) {
	for i := range 600 {
		r := row(i + 40000)
		p := r.program()
		for j := 0; j < len(p.f.Code); j++ {
			op := p.f.Code[j]
			o, is := gas.Op(op)
			if is && !pure(op) {
				p.f.Code[j] = 0x5b
			}
			j += o.Data
		}
		want := ""
		for _, where := range []api.Address{self, absent, full} {
			for _, s := range []*state.State{newState(), state.New(nil)} {
				f := p.f
				f.Self, f.Caller = where, where
				before := stateText(s)
				m := start(t, s, p.e, f)
				v := ended(t, m)
				text := eventText(v) + told(m)
				if want == "" {
					want = text
				}
				wantText(t, fmt.Sprintf("pure code %x", p.f.Code), text, want)
				wantText(t, "the state", stateText(s), before)
			}
		}
	}
}

// P15.9: in a Static frame nothing of the state changes but what is warm.
func TestStatic(t *testing.T) {
	for i := range 1500 {
		r := row(i + 60000)
		p := r.program()
		p.f.Static = true
		s := newState()
		r.ready(s)
		before := stateText(s)
		m := start(t, s, p.e, p.f)
		p.finish(t, m, func() int { return plenty })
		wantText(t, fmt.Sprintf("static code %x", p.f.Code), stateText(s), before)
		s.End()
		still := newState()
		r.ready(still)
		still.End()
		wantText(t, "and at the end", stateText(s), stateText(still))
	}
}

// P15.9: each opcode that changes, in a Static frame, with any words and plenty of gas.
func TestStaticOpcodes(t *testing.T) {
	for _, op := range changing() {
		o, _ := gas.Op(op)
		for i := range 50 {
			r := row(i)
			x := trial{op: op, words: r.operands(op), static: true}
			wantRefused(t, o.Name, x, 30000000, api.ErrStatic)
		}
	}
}

// Machines over one state do not know of one another but by the state.
func TestTwoMachines(t *testing.T) {
	s := newState()
	one := start(t, s, newEnv(), newFrame(fill(2), with(0x54, w(1))))
	other := start(t, s, newEnv(), newFrame(with(0x54, w(1)), with(0x51, w(0))))
	for _, m := range []*machine.Machine{one, other} {
		m.Run(4)
	}
	one.Run(100)
	other.Run(100)
	wantStack(t, "one", one, w(5))
	wantStack(t, "the other", other, w(5), w(0))
	wantNumber(t, "what was warm by the other", api.MaxGas-one.Gas(), 4*3+2*3+6+3+100)
	wantNumber(t, "what was cold", api.MaxGas-other.Gas(), 3+2100+3+3+3)
}
