package machine

import (
	"cairn/api"
	"cairn/gas"
	"cairn/opcode"
	"cairn/word"
)

// mostTaken is how many words an opcode takes, but for DUP and SWAP, which take none away.
const mostTaken = 7

// instruction is one under way. Till it is settled the machine is as ahead of it; only what it makes warm is so at once.
type instruction struct {
	m      *Machine
	op     byte
	info   api.OpInfo
	at     int                 // its place
	words  [mostTaken]api.Word // those that it takes, the top first
	left   uint64              // the gas, less what is paid
	size   uint64              // how many bytes the memory has to have
	refund int                 // of SSTORE
	fault  api.Errno
}

// next answers the opcode at which the machine stands.
func (m *Machine) next() byte {
	if m.place >= len(m.frame.Code) {
		return opcode.Stop
	}
	return m.frame.Code[m.place]
}

// take looks at the words that the instruction takes, unless the opcode, the stack or the frame are against it.
func (x *instruction) take() api.Errno {
	info, is := gas.Op(x.op)
	deep := x.m.stack.size()
	switch {
	case !is:
		return api.ErrOpcode
	case deep < info.Pops:
		return api.ErrUnder
	case deep-info.Pops+info.Pushes > api.MaxStack:
		return api.ErrOver
	}
	x.info = info
	for i := range min(info.Pops, mostTaken) {
		x.words[i] = x.m.stack.below(i)
	}
	if x.m.frame.Static && x.changes() {
		return api.ErrStatic
	}
	return api.OK
}

// changes answers whether the instruction changes what may not change in a Static frame.
func (x *instruction) changes() bool {
	switch x.op {
	case opcode.Call:
		return x.words[2] != (api.Word{})
	case opcode.Sstore, opcode.Tstore, opcode.Create, opcode.Create2, opcode.Selfdestruct:
		return true
	}
	return x.op >= opcode.Log0 && x.op <= opcode.Log4
}

// refused answers what is against an instruction that is paid.
func (x *instruction) refused() api.Errno {
	switch x.op {
	case opcode.Jumpi:
		if !x.jumps() {
			return api.OK
		}
		fallthrough
	case opcode.Jump:
		if !x.m.isDest(x.words[0]) {
			return api.ErrJump
		}
	case opcode.Returndatacopy:
		end, over := word.Carry(x.words[1], x.words[2])
		if over || word.Cmp(end, count(len(x.m.returned))) > 0 {
			return api.ErrData
		}
	}
	return api.OK
}

// jumps answers whether a JUMPI is to jump.
func (x *instruction) jumps() bool { return x.words[1] != (api.Word{}) }

// isDest answers whether one may jump to a place. They are all found at the first jump, for a loop asks again and again.
func (m *Machine) isDest(at api.Word) bool {
	if m.dests == nil {
		m.dests = make([]bool, len(m.frame.Code))
		for place := range gas.Dests(m.frame.Code) {
			m.dests[place] = true
		}
	}
	n, small := word.Small(at)
	return small && n < uint64(len(m.dests)) && m.dests[n]
}

// settle takes gas and words away, lets the memory grow, and goes behind the instruction.
func (x *instruction) settle() {
	m := x.m
	m.gas = x.left
	m.memory = append(m.memory, make([]byte, x.size-uint64(len(m.memory)))...)
	if !x.isExchange() {
		m.stack.drop(x.info.Pops)
	}
	m.place += 1 + x.info.Data
}

// isExchange answers whether it is a DUP or SWAP, whose words stay.
func (x *instruction) isExchange() bool { return x.op >= opcode.Dup1 && x.op < opcode.Log0 }
