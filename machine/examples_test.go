package machine_test

import (
	"testing"

	"cairn/api"
	"cairn/state"
)

// example runs code with 100 gas over no accounts.
func example(t *testing.T, static bool, code ...byte) (machining, api.Event) {
	t.Helper()
	m := start(t, state.New(nil), api.Env{}, api.Frame{Code: code, Gas: 100, Static: static})
	return m, m.Run(1000)
}

// The chapter's first example.
func TestExampleOfCodes(t *testing.T) {
	m, v := example(t, false, 0x60, 0x02, 0x60, 0x03, 0x01, 0x00)
	wantEvent(t, "a sum", v, api.Event{Kind: api.EventStop})
	wantStack(t, "a sum", m, w(5))
	wantNumber(t, "what is left", m.Gas(), 91)
	_, v = example(t, false, 0x01)
	wantFault(t, "01", v, api.ErrUnder)
	_, v = example(t, false, 0x60, 0x00, 0x56)
	wantFault(t, "56 behind 60 00", v, api.ErrJump)
	_, v = example(t, false, 0xfe)
	wantFault(t, "fe", v, api.ErrOpcode)
}

// The chapter's second example.
func TestExampleOfRevert(t *testing.T) {
	_, v := example(t, false, 0x5f, 0x5f, 0xfd)
	wantEvent(t, "5f 5f fd", v, api.Event{Kind: api.EventRevert})
	_, v = example(t, true, 0x60, 0x01, 0x60, 0x00, 0x55)
	wantFault(t, "SSTORE in a Static frame", v, api.ErrStatic)
}
