package machine

import (
	"cairn/api"
	"cairn/gas"
	"cairn/opcode"
	"cairn/word"
)

const (
	mustBeMore = 2300  // SSTORE asks for more gas than that to be left
	newAccount = 25000 // what goes to an account that is empty costs that much more
)

// payAll pays for all that an instruction costs: 15.2
func (x *instruction) payAll() api.Errno {
	x.pay(x.info.Gas)
	a, b, c := x.words[0], x.words[1], x.words[2]
	switch x.op {
	case opcode.Exp:
		x.pay(gas.Exp(b))
	case opcode.Balance, opcode.Extcodesize, opcode.Extcodehash:
		x.touch(a)
	case opcode.Extcodecopy: // as the other copies, with an address ahead
		x.touch(a)
		a, c = b, x.words[3]
		fallthrough
	case opcode.Calldatacopy, opcode.Codecopy, opcode.Returndatacopy:
		x.grow(room{a, c})
		x.payIf(gas.Copy(c))
	case opcode.Mcopy:
		x.grow(room{a, c})
		x.grow(room{b, c})
		x.payIf(gas.Copy(c))
	case opcode.Keccak256:
		x.grow(room{a, b})
		x.payIf(gas.Keccak(b))
	case opcode.Log0, opcode.Log1, opcode.Log2, opcode.Log3, opcode.Log4:
		x.grow(room{a, b})
		x.payIf(gas.Log(int(x.op-opcode.Log0), b))
	case opcode.Return, opcode.Revert:
		x.grow(room{a, b})
	case opcode.Mload, opcode.Mstore:
		x.grow(roomOf(a, bytesOfWord))
	case opcode.Mstore8:
		x.grow(roomOf(a, 1))
	case opcode.Sload:
		x.touchSlot(a)
	case opcode.Sstore:
		x.payStore(a, b)
	case opcode.Selfdestruct:
		x.payDestroy(a)
	case opcode.Create, opcode.Create2:
		x.payCreation(room{b, c})
	case opcode.Call, opcode.Callcode, opcode.Delegatecall, opcode.Staticcall:
		x.payCall()
	}
	return x.fault
}

// pay takes gas for a part of what the instruction costs. Where there is not enough it has failed: from then on nothing is paid, grown or
// made warm for it.
func (x *instruction) pay(cost uint64) {
	if x.fault == api.OK && cost > x.left {
		x.fault = api.ErrGas
	}
	if x.fault == api.OK {
		x.left -= cost
	}
}

// payIf pays, unless e says that nobody can.
func (x *instruction) payIf(cost uint64, e api.Errno) {
	if x.fault == api.OK {
		x.fault = e
	}
	x.pay(cost)
}

// grow pays for a memory that has a room.
func (x *instruction) grow(r room) {
	size, cost, e := gas.Grow(x.size, r.at, r.long)
	x.payIf(cost, e)
	x.size = size
}

// touch pays for an address, which is warm from then on, paid or not: only by making it so a state tells whether it was.
func (x *instruction) touch(a api.Word) {
	if x.fault == api.OK {
		x.pay(gas.Account(x.m.state.Warm(Address(a))))
	}
}

// touchSlot pays for a slot of Self, likewise.
func (x *instruction) touchSlot(key api.Word) {
	if x.fault == api.OK {
		x.pay(gas.Slot(x.m.state.WarmSlot(x.m.frame.Self, key)))
	}
}

// payStore pays for a slot that becomes next.
func (x *instruction) payStore(key, next api.Word) {
	s, self := x.m.state, x.m.frame.Self
	if x.left <= mustBeMore {
		x.fault = api.ErrGas
		return
	}
	cost, refund := gas.Store(s.First(self, key), s.Slot(self, key), next, s.WarmSlot(self, key))
	x.refund = refund
	x.pay(cost)
}

// payDestroy pays for a SELFDESTRUCT to an address.
func (x *instruction) payDestroy(a api.Word) {
	if x.fault != api.OK {
		return
	}
	s, to := x.m.state, Address(a)
	if !s.Warm(to) {
		x.pay(gas.Account(false))
	}
	if s.Balance(x.m.frame.Self) != (api.Word{}) && s.Empty(to) {
		x.pay(newAccount)
	}
}

// payCreation pays for a creation by init code, but for the gas that it hands on.
func (x *instruction) payCreation(init room) {
	x.grow(init)
	x.payIf(costOfInit(init.long))
	if x.op == opcode.Create2 {
		x.payIf(gas.Keccak(init.long)) // its address hangs on the code
	}
}

// costOfInit answers what so many bytes of init code cost.
func costOfInit(long api.Word) (uint64, api.Errno) {
	n, small := word.Small(long)
	if !small || n > api.MaxInit {
		return 0, api.ErrGas
	}
	return gas.Init(n), api.OK
}

// payCall pays for a call, but for the gas that it hands on.
func (x *instruction) payCall() {
	c := x.call()
	x.grow(c.input)
	x.grow(c.output)
	if x.fault == api.OK {
		s := x.m.state
		fresh := x.op == opcode.Call && s.Empty(c.to) // CALLCODE pays Self
		x.pay(gas.Call(s.Warm(c.to), c.isPaid(), fresh))
	}
}
