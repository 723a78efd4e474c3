package state_test

import (
	"testing"

	"cairn/api"
	"cairn/state"
)

// The chapter's examples.

func TestExample1(t *testing.T) {
	a := address(1)
	b, e := state.Alloc([]api.Account{{Address: a, Balance: w(5)}})
	wantErrno(t, "Alloc", e, api.OK)
	s := state.New(b)
	wantErrno(t, "Sub", s.Sub(a, w(6)), api.ErrBalance)
	wantTrue(t, "Mark", s.Mark() == 0)
	wantErrno(t, "Sub", s.Sub(a, w(5)), api.OK)
	wantErrno(t, "Back", s.Back(0), api.OK)
	wantWord(t, "5 again", s.Balance(a), w(5))
}

func TestExample2(t *testing.T) {
	a, c := address(1), address(2)
	s := over(account(1, 0, 5, ""))
	s.Create(c)
	s.SetSlot(c, w(1), w(2))
	s.Destroy(c)
	s.End()
	wantTrue(t, "c is not there", !s.Exists(c))
	before := told(s)
	s.Destroy(a)
	wantTold(t, "an account that the base has", s, before)
	s.End()
	wantTold(t, "an account that the base has", s, before)
}
