package machine_test

import (
	"testing"

	"cairn/api"
	"cairn/machine"
	"cairn/state"
)

// nobodys are the states that state.New did not make.
func nobodys() map[string]*state.State {
	return map[string]*state.State{"nil": nil, "new": new(state.State), "a literal": {}}
}

func wantNoMachine(t *testing.T, what string, s *state.State, f api.Frame, want api.Errno) {
	t.Helper()
	m, e := machine.New(s, newEnv(), f)
	wantErrno(t, what, e, want)
	wantTrue(t, what+": no machine", m == nil)
}

func TestNewOfNobodysState(t *testing.T) { // P15.1
	for what, s := range nobodys() {
		wantNoMachine(t, what, s, newFrame(), api.ErrMachine)
		f := newFrame(make([]byte, api.MaxInit+1))
		f.Gas = api.MaxGas + 1
		wantNoMachine(t, what+", and all else is wrong, too", s, f, api.ErrMachine)
	}
}

func TestNewLimits(t *testing.T) { // P15.1
	s := newState()
	good := func(gas uint64, code, input int) {
		t.Helper()
		f := api.Frame{Gas: gas, Code: make([]byte, code), Input: make([]byte, input)}
		m := start(t, s, newEnv(), f)
		wantNumber(t, "gas", m.Gas(), gas)
	}
	bad := func(gas uint64, code, input int, want api.Errno) {
		t.Helper()
		wantNoMachine(t, "too much", s, api.Frame{Gas: gas, Code: make([]byte, code), Input: make([]byte, input)}, want)
	}
	good(0, 0, 0)
	good(33554432, 49152, 8388608)
	bad(33554433, 0, 0, api.ErrRange)
	bad(1<<64-1, 0, 0, api.ErrRange)
	bad(0, 49153, 0, api.ErrLong)
	bad(0, 0, 8388609, api.ErrLong)
	bad(33554432, 49153, 8388609, api.ErrLong)
	bad(33554433, 49153, 0, api.ErrRange)
	bad(33554433, 0, 8388609, api.ErrRange)
}

func TestNewMachine(t *testing.T) { // P15.1, P15.4: ahead of its first instruction
	s := newState()
	before := stateText(s)
	f := newFrame(with(0x01, w(1), w(2)))
	f.Gas = 77
	m := start(t, s, newEnv(), f)
	wantText(t, "a new machine", told(m), "stack\n memory\nplace 0\ngas 77\nreturned \nsteps 0\n")
	wantText(t, "the state", stateText(s), before)
	start(t, state.New(nil), api.Env{}, api.Frame{})
}

func TestNewChangesNothing(t *testing.T) { // P15.1: no mark comes or goes, and nothing is taken back
	s := newState()
	first := s.Mark()
	s.SetSlot(self, w(3), w(33))
	second := s.Mark()
	s.Warm(bare)
	before := stateText(s)
	start(t, s, newEnv(), newFrame())
	wantText(t, "the state", stateText(s), before)
	wantTrue(t, "warm as ahead", s.Warm(bare) && !s.Warm(self) && !s.Warm(caller) && !s.Warm(api.Address{}))
	wantTrue(t, "marks", s.Mark() == second+1)
	wantErrno(t, "Back", s.Back(second), api.OK)
	wantErrno(t, "Back", s.Back(first), api.OK)
	wantTrue(t, "taken back", s.Slot(self, w(3)) == w(0))
}

func TestTheStateItself(t *testing.T) { // P15.1: not a copy
	s := newState()
	m := start(t, s, newEnv(), newFrame(with(0x55, w(3), w(9)), with(0x54, w(4))))
	m.Run(3)
	wantTrue(t, "what the machine does is seen", s.Slot(self, w(3)) == w(9))
	s.SetSlot(self, w(4), w(44))
	m.Run(2)
	wantStack(t, "and what is done beside it, by the machine", m, w(44))
	other := start(t, s, newEnv(), newFrame(with(0x54, w(3))))
	other.Run(2)
	wantStack(t, "two machines over one state", other, w(9))
}
