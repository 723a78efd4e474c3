package state_test

import (
	"testing"

	"cairn/api"
	"cairn/state"
	"cairn/word"
)

func TestMaking(t *testing.T) { // P13.7: what makes an account, and what doesn't
	a := address(4)
	for what, x := range map[string]struct {
		do    func(s *state.State)
		makes bool
	}{
		"SetNonce":   {func(s *state.State) { s.SetNonce(a, 0) }, true},
		"SetCode":    {func(s *state.State) { s.SetCode(a, nil) }, true},
		"Add":        {func(s *state.State) { s.Add(a, w(0)) }, true},
		"Sub":        {func(s *state.State) { s.Sub(a, w(0)) }, true},
		"SetSlot":    {func(s *state.State) { s.SetSlot(a, key(1), w(0)) }, true},
		"Create":     {func(s *state.State) { s.Create(a) }, true},
		"Sub of 1":   {func(s *state.State) { s.Sub(a, w(1)) }, false},
		"Touch":      {func(s *state.State) { s.Touch(a) }, false},
		"Destroy":    {func(s *state.State) { s.Destroy(a) }, false},
		"SetPassing": {func(s *state.State) { s.SetPassing(a, key(1), w(1)) }, false},
		"Warm":       {func(s *state.State) { s.Warm(a); s.WarmSlot(a, key(1)) }, false},
	} {
		s := over(some()...)
		before := told(s)
		x.do(s)
		wantTrue(t, what, s.Exists(a) == x.makes && s.Empty(a))
		if x.makes {
			wantChanges(t, what, s.Changes(), api.Change{Address: a})
		} else {
			wantChanges(t, what, s.Changes())
		}
		s.End()
		wantTold(t, what+": empty and touched, or never made", s, before)
	}
}

func TestSetting(t *testing.T) { // P13.7
	s := over(some()...)
	a := address(0)
	s.SetNonce(a, 1<<64-1)
	wantTrue(t, "nonce", s.Nonce(a) == 1<<64-1)
	s.SetNonce(a, 0)
	wantTrue(t, "nonce", s.Nonce(a) == 0 && s.Balance(a) == w(100) && string(s.Code(a)) == "code")
	s.SetCode(a, []byte("new"))
	wantTrue(t, "code", string(s.Code(a)) == "new" && s.Balance(a) == w(100))
	s.SetCode(a, nil)
	wantTrue(t, "no code", len(s.Code(a)) == 0 && !s.Used(a) && !s.Empty(a))
	for _, k := range keys() {
		for _, v := range []api.Word{w(1), most(), {0, 0, 0, 1}, w(0), w(0), w(5)} {
			s.SetSlot(a, k, v)
			wantWord(t, "a slot", s.Slot(a, k), v)
		}
		wantWord(t, "another one's", s.Slot(address(1), k), w(0))
	}
	s.SetSlot(a, key(1), w(0))
	wantWord(t, "taken away", s.Slot(a, key(1)), w(0))
	wantWord(t, "another one", s.Slot(a, key(2)), w(5))
}

func TestAdd(t *testing.T) { // P13.7
	a := address(1)
	s := over(some()...)
	must(t, s.Add(a, word.Sub(most(), w(5)))) // up to 2^256 - 1
	wantWord(t, "the most", s.Balance(a), most())
	must(t, s.Add(a, w(0)))
	for _, v := range []api.Word{w(1), most(), {0, 0, 0, 1}} {
		before := told(s)
		wantErrno(t, "beyond", s.Add(a, v), api.ErrBalance)
		wantTold(t, "beyond", s, before)
	}
	must(t, s.Add(address(2), most()), s.Add(address(4), most()))
	wantWord(t, "of an empty one", s.Balance(address(2)), most())
	wantWord(t, "of none", s.Balance(address(4)), most())
	s = over(some()...)
	must(t, s.Add(a, api.Word{^uint64(0) - 4, ^uint64(0)}))
	wantWord(t, "a carry", s.Balance(a), api.Word{0, 0, 1})
}

func TestSub(t *testing.T) { // P13.7
	a := address(1)
	s := over(some()...)
	for _, v := range []api.Word{w(6), most(), {0, 1}} {
		before := told(s)
		wantErrno(t, "more", s.Sub(a, v), api.ErrBalance)
		wantErrno(t, "more than none has", s.Sub(address(4), v), api.ErrBalance)
		wantErrno(t, "more than an empty one has", s.Sub(address(2), v), api.ErrBalance)
		wantTold(t, "more", s, before)
	}
	wantTrue(t, "nothing is made", !s.Exists(address(4)))
	must(t, s.Sub(a, w(2)))
	wantWord(t, "some", s.Balance(a), w(3))
	must(t, s.Sub(a, w(3)))
	wantTrue(t, "all", s.Balance(a) == w(0) && s.Exists(a) && s.Empty(a))
	wantErrno(t, "more than nothing", s.Sub(a, w(1)), api.ErrBalance)
	must(t, s.Sub(a, w(0)))
	s.End()
	wantTrue(t, "touched and empty", !s.Exists(a) && s.Exists(address(2)))
}

func TestAnErrorTouchesNothing(t *testing.T) { // P13.7, P4
	rich := api.Account{Address: address(4), Balance: most()}
	for what, do := range map[string]func(s *state.State) api.Errno{
		"Sub of an empty one": func(s *state.State) api.Errno { return s.Sub(address(2), w(1)) },
		"Sub of none":         func(s *state.State) api.Errno { return s.Sub(address(5), w(1)) },
		"Add":                 func(s *state.State) api.Errno { return s.Add(address(4), w(1)) },
	} {
		s := over(append(some(), rich)...)
		s.Mark()
		before := told(s)
		wantErrno(t, what, do(s), api.ErrBalance)
		wantTold(t, what, s, before)
		wantErrno(t, what, s.Back(1), api.ErrRange)
		wantTold(t, what, s, before)
		s.End()
		wantTold(t, what+": behind End", s, before)
	}
	// One that is touched by an Add that is refused would be gone, once it is empty.
	s := over(append(some(), rich)...)
	wantErrno(t, "Add", s.Add(address(4), w(1)), api.ErrBalance)
	s.End()
	wantChanges(t, "Add", s.Changes())
}

func TestCreate(t *testing.T) { // P13.7
	for i := range addresses() {
		s := over(some()...)
		a := address(i)
		balance := s.Balance(a)
		s.SetSlot(a, key(0), w(77))
		s.SetNonce(a, 8)
		s.SetCode(a, []byte("old"))
		s.Create(a)
		wantTrue(t, "with its balance, nonce 0, no code", s.Exists(a) && s.Balance(a) == balance && s.Nonce(a) == 0 && len(s.Code(a)) == 0)
		wantTrue(t, "fresh, not used", s.Fresh(a) && !s.Used(a))
		for _, k := range keys() {
			wantWord(t, "no slots", s.Slot(a, k), w(0))
			wantWord(t, "none at first", s.First(a, k), w(0))
		}
		for j := range addresses() {
			wantTrue(t, "no other is fresh", (i == j) == s.Fresh(address(j)))
		}
		s.SetSlot(a, key(2), w(5))
		wantWord(t, "a slot of its own", s.Slot(a, key(2)), w(5))
		s.Create(a)
		wantWord(t, "created again", s.Slot(a, key(2)), w(0))
		s.End()
		wantTrue(t, "gone just if it is empty", s.Exists(a) == (balance != w(0)) && !s.Fresh(a))
	}
}

func TestDestroy(t *testing.T) { // P13.7
	s := over(some()...)
	before := told(s)
	for _, a := range addresses() {
		s.Destroy(a) // not fresh, or not there
	}
	wantTold(t, "not fresh", s, before)
	s.End()
	wantTold(t, "not fresh, behind End", s, before)

	s.Create(address(1))
	s.End()
	s.Destroy(address(1)) // created in another transaction
	s.End()
	wantTrue(t, "of another transaction", s.Exists(address(1)))

	mark := s.Mark()
	s.Create(address(1))
	must(t, s.Back(mark))
	s.Destroy(address(1)) // not created any more
	s.End()
	wantTrue(t, "not created any more", s.Exists(address(1)))

	s.Create(address(1))
	mark = s.Mark()
	s.Destroy(address(1))
	must(t, s.Back(mark))
	s.End()
	wantTrue(t, "not to be destroyed any more", s.Exists(address(1)))
	s.Create(address(1))
	s.Destroy(address(1))
	s.Destroy(address(1))
	s.End()
	wantTrue(t, "destroyed", !s.Exists(address(1)) && s.Exists(address(0)))
}

func TestTouch(t *testing.T) { // P13.7
	s := over(some()...)
	before := told(s)
	for _, a := range addresses() {
		s.Touch(a)
	}
	wantTold(t, "touched", s, before)
	s.SetNonce(address(4), 0)
	s.SetNonce(address(4), 1)
	s.End()
	wantChanges(t, "the empty ones are gone", s.Changes(),
		api.Change{Address: address(2), Gone: true}, api.Change{Address: address(3), Gone: true}, api.Change{Address: address(4), Nonce: 1})
	s = over(some()...)
	s.Touch(address(4)) // not there: it is not touched when it is made anew by what is taken back
	mark := s.Mark()
	s.Create(address(4))
	must(t, s.Back(mark))
	s.End()
	wantChanges(t, "one that isn't there", s.Changes())
}
