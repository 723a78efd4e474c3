package call

import (
	"math"

	"cairn/api"
	"cairn/machine"
	"cairn/opcode"
)

// run answers what comes of a machine that runs a frame, and of all messages that it asks for: P17.5
func (x *message) run(f api.Frame) api.Result {
	r := api.Result{Deepest: x.Depth}
	m, e := machine.New(x.state, x.env, f)
	if e != api.OK { // code that is longer than any that can be created
		r.Err = e
		return r
	}
	var v api.Event
running:
	for {
		v = m.Run(math.MaxInt)
		switch v.Kind {
		case api.EventAsk:
			within := Do(x.state, x.env, x.asked(f, v.Ask))
			m.Reply(api.Reply{OK: within.Err == api.OK, Gas: within.Gas, Out: within.Out, Made: within.Made})
			r = with(r, within)
		default:
			break running
		}
	}
	r.Err, r.Gas, r.Out = v.Err, m.Gas(), v.Out // a fault leaves no gas, and tells nothing
	if v.Kind == api.EventRevert {
		r.Err = api.ErrRevert
	}
	r.Steps += m.Steps()
	return r
}

// with answers r, with the instructions of a message within, and its depth, if any code ran there: P17.6
func with(r, within api.Result) api.Result {
	r.Steps += within.Steps
	if within.Steps > 0 {
		r.Deepest = max(r.Deepest, within.Deepest)
	}
	return r
}

// asked answers the message that a frame's code asks for.
func (x *message) asked(f api.Frame, a api.Ask) api.Msg {
	m := api.Msg{
		Kind: kindOf(a.Op), From: f.Self, To: a.To, Value: a.Value, Input: a.Input, Salt: a.Salt, Gas: a.Gas, Static: f.Static, Depth: x.Depth + 1,
	}
	if m.Kind == api.MsgDelegate {
		m.Caller, m.Value = f.Caller, f.Value
	}
	return m
}

// kindOf answers the kind of message that an opcode asks for.
func kindOf(op byte) api.MsgKind {
	switch op {
	case opcode.Call:
		return api.MsgCall
	case opcode.Callcode:
		return api.MsgCode
	case opcode.Delegatecall:
		return api.MsgDelegate
	case opcode.Staticcall:
		return api.MsgStatic
	case opcode.Create:
		return api.MsgCreate
	}
	return api.MsgCreate2
}
