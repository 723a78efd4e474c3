package machine_test

import (
	"testing"

	"cairn/api"
	"cairn/machine"
)

// counts are how many instructions one may ask for.
func counts() []int { return []int{0, 1, 2, 100, -1, 1<<63 - 1, -1 << 63} }

// nobody are the machines that New did not make.
func nobody() map[string]*machine.Machine {
	return map[string]*machine.Machine{"nil": nil, "new": new(machine.Machine), "a literal": {}}
}

func TestNobodysMachine(t *testing.T) { // P15.2, P15.3, P15.4
	for what, m := range nobody() {
		for range 2 {
			for _, most := range counts() {
				wantFault(t, what+": Run", m.Run(most), api.ErrMachine)
			}
			wantErrno(t, what+": Reply", m.Reply(api.Reply{}), api.ErrMachine)
			wantErrno(t, what+": Reply", m.Reply(api.Reply{OK: true, Gas: 1 << 40, Out: []byte("out")}), api.ErrMachine)
			wantText(t, what, told(m), "stack\n memory\nplace 0\ngas 0\nreturned \nsteps 0\n")
		}
	}
}

func TestRunOfSoMany(t *testing.T) { // P15.2
	m := start(t, newState(), newEnv(), newFrame([]byte{0x60, 1, 0x60, 2, 0x01, 0x80, 0x5b}))
	for _, most := range []int{0, -1, -1 << 63} {
		wantEvent(t, "Run of none", m.Run(most), api.Event{Kind: api.EventPause})
		wantNumber(t, "nothing is done", uint64(m.Steps()), 0)
	}
	for i, n := range []int{1, 2, 0, 1} {
		wantEvent(t, "Run of some", m.Run(n), api.Event{Kind: api.EventPause})
		wantNumber(t, "so many are done", uint64(m.Steps()), uint64([]int{1, 3, 3, 4}[i]))
	}
	wantStack(t, "Run of some", m, w(3), w(3))
	wantEvent(t, "the last one of the code", m.Run(1), api.Event{Kind: api.EventPause})
	wantNumber(t, "at the code's end", uint64(m.Place()), 7)
	wantEvent(t, "none behind the code's end", m.Run(0), api.Event{Kind: api.EventPause})
	wantEvent(t, "behind the code's end", m.Run(1), api.Event{Kind: api.EventStop})
	wantNumber(t, "the STOP there is one, too", uint64(m.Steps()), 6)
	wantNumber(t, "the place is the code's end", uint64(m.Place()), 7)
}

// ends are codes that end, and how: with the count of their instructions.
func ends() map[string]struct {
	code  []byte
	steps int
	event api.Event
} {
	return map[string]struct {
		code  []byte
		steps int
		event api.Event
	}{
		"STOP":         {[]byte{0x60, 1, 0x00, 0x01}, 2, api.Event{Kind: api.EventStop}},
		"no STOP":      {[]byte{0x60, 1}, 2, api.Event{Kind: api.EventStop}},
		"no code":      {nil, 1, api.Event{Kind: api.EventStop}},
		"RETURN":       {append(fill(1), 0x60, 3, 0x60, 1, 0xf3, 0x01), 6, api.Event{Kind: api.EventReturn, Out: input(5)[1:4]}},
		"REVERT":       {append(fill(1), 0x60, 3, 0x60, 2, 0xfd, 0x01), 6, api.Event{Kind: api.EventRevert, Out: input(5)[2:5]}},
		"SELFDESTRUCT": {append(with(0xff, of(bare)), 0x01), 2, api.Event{Kind: api.EventStop}},
		"a fault":      {append(fill(1), 0x0c), 4, api.Event{Kind: api.EventFault, Err: api.ErrOpcode}},
		"another":      {[]byte{0x60, 1, 0x60, 7, 0x56}, 3, api.Event{Kind: api.EventFault, Err: api.ErrJump}},
	}
}

func TestRunBehindTheEnd(t *testing.T) { // P15.2: each Run tells the event again, and nothing more is done
	for what, x := range ends() {
		for first := range x.steps + 3 {
			m := start(t, newState(), newEnv(), newFrame(x.code))
			if first < x.steps {
				wantEvent(t, what+", ahead of it", m.Run(first), api.Event{Kind: api.EventPause})
				wantNumber(t, what+", ahead of it", uint64(m.Steps()), uint64(first))
				wantEvent(t, what+", just reached", m.Run(x.steps-first), x.event)
			}
			wantEvent(t, what, m.Run(1000), x.event)
			wantNumber(t, what+": steps", uint64(m.Steps()), uint64(x.steps))
			before := told(m)
			goOn(t)
			for _, most := range counts() {
				wantEvent(t, what+", again", m.Run(most), x.event)
				wantErrno(t, what+": Reply", m.Reply(api.Reply{OK: true}), api.ErrMachine)
				wantText(t, what+", again", told(m), before)
			}
		}
	}
}

func TestRunWhileItAsks(t *testing.T) { // P15.2
	m := start(t, newState(), newEnv(), newFrame(fill(1), with(0xf1, w(500), of(bare), w(2), w(1), w(3), w(0), w(40)), []byte{0x60, 7}))
	want := api.Event{Kind: api.EventAsk, Ask: api.Ask{Op: 0xf1, Gas: 2800, To: bare, Value: w(2), Input: input(4)[1:]}}
	wantEvent(t, "it asks", m.Run(1000), want)
	before := told(m)
	goOn(t)
	for _, most := range counts() {
		wantEvent(t, "again", m.Run(most), want)
		wantText(t, "again", told(m), before)
	}
	wantErrno(t, "Reply", m.Reply(api.Reply{}), api.OK)
	wantEvent(t, "it goes on", m.Run(1), api.Event{Kind: api.EventPause})
	wantStack(t, "it goes on", m, w(0), w(7))
	wantEvent(t, "it ends", m.Run(5), api.Event{Kind: api.EventStop})
}

// P15.2, P15.7: a loop that never ends by itself.
func TestALoop(t *testing.T) {
	f := newFrame([]byte{0x5b, 0x5f, 0x56}) // 11 gas a round
	f.Gas = 11*1000 + 5
	m := start(t, newState(), newEnv(), f)
	wantFault(t, "it runs out of gas", ended(t, m), api.ErrGas)
	wantNumber(t, "so many instructions were done", uint64(m.Steps()), 3003)
	wantNumber(t, "all gas is gone", m.Gas(), 0)
	f = newFrame([]byte{0x00})
	f.Gas = 0
	m = start(t, newState(), newEnv(), f)
	wantEvent(t, "what costs nothing", m.Run(5), api.Event{Kind: api.EventStop})
	f = newFrame([]byte{0xf3})
	f.Gas = 0
	wantFault(t, "too short a stack", start(t, newState(), newEnv(), f).Run(5), api.ErrUnder)
}
