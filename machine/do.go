package machine

import (
	"bytes"

	"cairn/api"
	"cairn/opcode"
	"cairn/word"
)

// do does what a settled instruction does: 15.2
func (x *instruction) do() {
	m := x.m
	switch op := x.op; {
	case op < opcode.Push1 && x.info.Pushes == 1:
		m.stack.push(x.value())
	case op < opcode.Push1:
		x.change()
	case op < opcode.Dup1:
		m.stack.push(numberAt(m.frame.Code, count(x.at+1), x.info.Data))
	case op < opcode.Swap1:
		m.stack.push(m.stack.below(int(op - opcode.Dup1)))
	case op < opcode.Log0:
		m.stack.exchange(int(op-opcode.Swap1) + 1)
	case op <= opcode.Log4:
		x.log()
	default:
		x.leave()
	}
}

// value answers the word that an opcode up to PUSH0 puts on the stack.
func (x *instruction) value() api.Word {
	switch x.op >> 4 {
	case 0x0, 0x1:
		return reckon(x.op, x.words[0], x.words[1], x.words[2])
	case 0x3:
		return x.ofFrame()
	case 0x4:
		return x.ofBlock()
	}
	return x.ofMachine()
}

// change does what an opcode up to PUSH0 does that puts nothing on the stack.
func (x *instruction) change() {
	m, a, b, c := x.m, x.words[0], x.words[1], x.words[2]
	switch x.op {
	case opcode.Stop:
		m.end(api.EventStop, nil)
	case opcode.Calldatacopy:
		lay(m.part(room{a, c}), m.frame.Input, b)
	case opcode.Codecopy:
		lay(m.part(room{a, c}), m.frame.Code, b)
	case opcode.Extcodecopy:
		lay(m.part(room{b, x.words[3]}), m.state.Code(Address(a)), c)
	case opcode.Returndatacopy:
		lay(m.part(room{a, c}), m.returned, b)
	case opcode.Mcopy:
		copy(m.part(room{a, c}), m.part(room{b, c}))
	case opcode.Mstore:
		all := word.Bytes(b)
		copy(m.part(roomOf(a, bytesOfWord)), all[:])
	case opcode.Mstore8:
		m.part(roomOf(a, 1))[0] = byte(b[0])
	case opcode.Sstore:
		m.state.SetSlot(m.frame.Self, a, b)
		m.state.AddRefund(x.refund)
	case opcode.Tstore:
		m.state.SetPassing(m.frame.Self, a, b)
	case opcode.Jumpi:
		if !x.jumps() {
			return
		}
		fallthrough
	case opcode.Jump:
		m.place = int(a[0])
	}
}

// log tells a log.
func (x *instruction) log() {
	data := x.m.part(room{x.words[0], x.words[1]})
	topics := make([]api.Hash, x.op-opcode.Log0)
	for i := range topics {
		topics[i] = word.Bytes(x.words[2+i])
	}
	x.m.state.Tell(api.Log{Address: x.m.frame.Self, Topics: topics, Data: data})
}

// leave does what an opcode does at which the machine stands still.
func (x *instruction) leave() {
	m, a, b := x.m, x.words[0], x.words[1]
	switch x.op {
	case opcode.Return:
		m.end(api.EventReturn, m.part(room{a, b}))
	case opcode.Revert:
		m.end(api.EventRevert, m.part(room{a, b}))
	case opcode.Selfdestruct:
		m.destroy(Address(a))
		m.end(api.EventStop, nil)
	case opcode.Create, opcode.Create2:
		x.askCreation()
	case opcode.Call, opcode.Callcode, opcode.Delegatecall, opcode.Staticcall:
		x.askCall()
	}
}

// end lets the machine stand still for good.
func (m *Machine) end(kind api.EventKind, out []byte) {
	m.event = api.Event{Kind: kind, Out: bytes.Clone(out)}
}

// destroy lets Self's balance go to an address, and Self be destroyed.
func (m *Machine) destroy(to api.Address) {
	s, self := m.state, m.frame.Self
	balance := s.Balance(self)
	goes := s.Fresh(self) // to itself; what is not fresh keeps it
	if to != self {
		goes = s.Add(to, balance) == api.OK
	}
	if goes {
		s.Sub(self, balance)
	}
	s.Destroy(self)
}
