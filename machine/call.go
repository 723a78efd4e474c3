package machine

import (
	"bytes"

	"cairn/api"
	"cairn/gas"
	"cairn/opcode"
	"cairn/word"
)

// stipend is what a call with a value hands on besides, so that whoever is paid can tell a log.
const stipend = 2300

// call is what a CALL, CALLCODE, DELEGATECALL or STATICCALL takes from the stack.
type call struct {
	gas           api.Word // as much as it would hand on
	to            api.Address
	value         api.Word
	input, output room
}

func (c call) isPaid() bool { return c.value != (api.Word{}) }

// call answers what a call takes.
func (x *instruction) call() call {
	c := call{gas: x.words[0], to: Address(x.words[1])}
	rest := x.words[2:]
	switch x.op {
	case opcode.Call, opcode.Callcode: // as the others, with a value between
		c.value = rest[0]
		rest = rest[1:]
		fallthrough
	case opcode.Delegatecall, opcode.Staticcall:
		c.input = room{at: rest[0], long: rest[1]}
		c.output = room{at: rest[2], long: rest[3]}
	}
	return c
}

// askCall lets the machine ask for a call.
func (x *instruction) askCall() {
	c := x.call()
	a := api.Ask{Gas: gas.Forward(x.m.gas, c.gas), To: c.to, Value: c.value}
	x.ask(a, c.input, c.output)
	if c.isPaid() {
		x.m.event.Ask.Gas += stipend // it is not paid for
	}
}

// askCreation lets the machine ask for a creation.
func (x *instruction) askCreation() {
	a := api.Ask{Gas: gas.Forward(x.m.gas, word.Of(x.m.gas)), Value: x.words[0]}
	if x.op == opcode.Create2 {
		a.Salt = x.words[3]
	}
	x.ask(a, room{at: x.words[1], long: x.words[2]}, room{})
}

// ask lets the machine stand still till it is told what came of what it asks for. The gas that is handed on is paid.
func (x *instruction) ask(a api.Ask, input, output room) {
	m := x.m
	m.gas -= a.Gas
	a.Op = x.op
	a.Input = bytes.Clone(m.part(input))
	m.event = api.Event{Kind: api.EventAsk, Ask: a}
	m.answer = m.part(output)
}
