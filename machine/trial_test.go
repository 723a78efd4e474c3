package machine_test

import (
	"testing"

	"cairn/api"
	"cairn/machine"
	"cairn/state"
)

// trial is an instruction that is looked at: the last one of the code, behind pushes of the words that it takes.
type trial struct {
	ready  func(s *state.State) // what is done to the state ahead; none, if nil
	ahead  []byte               // code ahead of the pushes
	reply  api.Reply            // of what that asks for
	op     byte
	words  []api.Word
	behind []byte // code behind it
	static bool
	number uint64 // of the block; 0: the environment's
}

func (x trial) state() *state.State {
	s := newState()
	if x.ready != nil {
		x.ready(s)
	}
	return s
}

// at is a machine that stands at the instruction, with so much gas left.
func (x trial) at(t *testing.T, s *state.State, left uint64) *machine.Machine {
	t.Helper()
	m := x.began(t, x.state(), api.MaxGas)
	used := api.MaxGas - m.Gas()
	return x.began(t, s, used+left)
}

// began is a machine that was given so much gas, and stands at the instruction. What code ahead asks for must leave the same gas whatever
// it was given.
func (x trial) began(t *testing.T, s *state.State, given uint64) *machine.Machine {
	t.Helper()
	code := append(append([]byte{}, x.ahead...), with(x.op, x.words...)...)
	e, f := newEnv(), newFrame(code, x.behind)
	f.Gas, f.Static = given, x.static
	if x.number != 0 {
		e.Number = x.number
	}
	m := start(t, s, e, f)
	for n := 0; m.Place() < len(code)-1; n++ {
		if v := m.Run(1); n > plenty {
			t.Fatal("preparing: it goes on for ever")
		} else if v.Kind == api.EventAsk {
			wantErrno(t, "preparing: Reply", m.Reply(x.reply), api.OK)
			goOn(t)
		} else if v.Kind != api.EventPause {
			t.Fatalf("preparing: %s", eventText(v))
		}
	}
	return m
}

// do does the instruction with plenty of gas.
func (x trial) do(t *testing.T) (*machine.Machine, *state.State, api.Event) {
	t.Helper()
	s := x.state()
	m := x.at(t, s, 30000000)
	return m, s, m.Run(1)
}

// wantPush holds the word that the instruction puts on the stack against what it should be.
func wantPush(t *testing.T, what string, x trial, want api.Word) {
	t.Helper()
	m, _, v := x.do(t)
	wantEvent(t, what, v, api.Event{Kind: api.EventPause})
	wantStack(t, what, m, want)
}

// wantRefused holds the instruction, with so much gas left, against the fault that it should be, and looks at what that leaves.
func wantRefused(t *testing.T, what string, x trial, left uint64, want api.Errno) *state.State {
	t.Helper()
	s := x.state()
	m := x.at(t, s, left)
	was, held, steps, returned := body(m), stateText(s), m.Steps(), m.Returned()
	wantFault(t, what, m.Run(1), want)
	wantText(t, what+": stack, memory and place", body(m), was)
	wantText(t, what+": the state", stateText(s), held)
	wantNumber(t, what+": the gas", m.Gas(), 0)
	wantNumber(t, what+": the steps", uint64(m.Steps()), uint64(steps+1))
	wantBytes(t, what+": what was returned", m.Returned(), returned)
	wantFault(t, what+", again", m.Run(1), want)
	return s
}

// wantCost holds what the instruction costs, in so many parts, against what it should: what is enough for the parts ahead is not for all.
func wantCost(t *testing.T, what string, x trial, parts ...uint64) {
	t.Helper()
	sum := uint64(0)
	for _, part := range parts {
		if sum > 0 {
			wantRefused(t, what+": some parts paid", x, sum, api.ErrGas)
		}
		sum += part
		if part > 0 {
			wantRefused(t, what+": one too little", x, sum-1, api.ErrGas)
		}
	}
	for _, more := range []uint64{0, 1, 64, 6400, 1000000} {
		m := x.at(t, x.state(), sum+more)
		v := m.Run(1)
		wantTrue(t, what+": enough", v.Kind != api.EventFault)
		left := m.Gas()
		if v.Kind == api.EventAsk {
			left += v.Ask.Gas
			if v.Ask.Value != (api.Word{}) && v.Ask.Op < 0xf3 && v.Ask.Op > 0xf0 {
				left -= 2300
			}
		}
		wantNumber(t, what+": what is left", left, more)
	}
}
