package state_test

import (
	"testing"

	"cairn/api"
	"cairn/state"
)

func TestNew(t *testing.T) { // P13.4
	for what, b := range bases(some()) {
		s := state.New(b)
		wantTold(t, what, s, told(newModel(some())))
		wantChanges(t, what, s.Changes())
		for _, a := range addresses() {
			x, is := state.Over(b, nil).Account(a)
			wantTrue(t, what+": it tells what the base does", s.Exists(a) == is && s.Nonce(a) == x.Nonce && s.Balance(a) == x.Balance)
			for _, k := range keys() {
				wantWord(t, what, s.Slot(a, k), b.Slot(a, k))
				wantWord(t, what, s.First(a, k), b.Slot(a, k))
			}
			wantTrue(t, what+": nothing is warm", !s.Warm(a) && !s.WarmSlot(a, key(1)))
		}
		wantTrue(t, what+": there is no mark", s.Back(0) == api.ErrRange && s.Mark() == 0)
	}
}

func TestStatesOverOneBase(t *testing.T) { // P13.4: the base is never changed, so that neither knows of the other
	for what, b := range bases(some()) {
		before := baseText(b)
		one, other := state.New(b), state.New(b)
		r := row(8)
		for range 60 {
			r.any().do(one)
		}
		one.End()
		wantTold(t, what, other, told(newModel(some())))
		wantText(t, what, baseText(b), before)
	}
}

// busy does some of everything to a state.
func busy(s *state.State) {
	s.SetNonce(address(4), 5)
	s.SetCode(address(4), []byte("c"))
	s.SetSlot(address(0), key(1), w(99))
	s.SetPassing(address(0), key(1), w(98))
	s.Create(address(5))
	s.SetNonce(address(5), 1)
	s.Destroy(address(5))
	s.Touch(address(2))
	s.Warm(address(0))
	s.WarmSlot(address(0), key(1))
	s.Tell(api.Log{Address: address(1)})
	s.AddRefund(7)
	s.Mark()
	s.Mark()
}

func TestBegin(t *testing.T) { // P13.5
	s := over(some()...)
	busy(s)
	changes := s.Changes()
	s.Begin()
	wantTrue(t, "nothing is warm", !s.Warm(address(0)) && !s.WarmSlot(address(0), key(1)))
	wantWord(t, "nothing passes", s.Passing(address(0), key(1)), w(0))
	wantText(t, "no logs", logsText(s.Logs()), "")
	wantTrue(t, "refund 0", s.Refund() == 0)
	wantTrue(t, "nothing is fresh", !s.Fresh(address(5)))
	wantWord(t, "first values are those of now", s.First(address(0), key(1)), w(99))
	wantErrno(t, "no mark", s.Back(0), api.ErrRange)
	wantErrno(t, "no mark", s.Back(1), api.ErrRange)
	wantTrue(t, "the first mark", s.Mark() == 0)
	wantChanges(t, "what was changed stays", s.Changes(), changes...)
	s.End()
	wantChanges(t, "nothing is touched or to be destroyed", s.Changes(), changes...)
	wantTrue(t, "an empty account that was touched ahead of Begin", s.Exists(address(2)))
	wantTrue(t, "one that was to be destroyed ahead of Begin", s.Exists(address(5)))
}

func TestEnd(t *testing.T) { // P13.5
	s := over(some()...)
	busy(s)
	s.End()
	wantTrue(t, "nothing is warm", !s.Warm(address(0)) && !s.WarmSlot(address(0), key(1)))
	wantWord(t, "nothing passes", s.Passing(address(0), key(1)), w(0))
	wantText(t, "no logs", logsText(s.Logs()), "")
	wantTrue(t, "refund 0", s.Refund() == 0)
	wantWord(t, "first values are those of now", s.First(address(0), key(1)), w(99))
	wantErrno(t, "no mark", s.Back(0), api.ErrRange)
	wantTrue(t, "the first mark", s.Mark() == 0)
	wantTrue(t, "destroyed", !s.Exists(address(5)) && !s.Fresh(address(5)))
	wantTrue(t, "touched and empty", !s.Exists(address(2)))
	wantTrue(t, "touched and not empty", s.Exists(address(0)) && s.Exists(address(4)))
	wantChanges(t, "End", s.Changes(),
		api.Change{Address: address(0), Nonce: 3, Balance: w(100), Code: []byte("code"), Slots: []api.Slot{slot(1, 99)}},
		api.Change{Address: address(2), Gone: true}, api.Change{Address: address(4), Nonce: 5, Code: []byte("c")})
}

func TestEndOfEmptyAccounts(t *testing.T) { // P13.5: of those that are empty just those are gone that were touched
	ways := map[string]func(s *state.State, a api.Address){
		"SetNonce": func(s *state.State, a api.Address) { s.SetNonce(a, 0) },
		"SetCode":  func(s *state.State, a api.Address) { s.SetCode(a, nil) },
		"Add":      func(s *state.State, a api.Address) { must(t, s.Add(a, w(0))) },
		"Sub":      func(s *state.State, a api.Address) { must(t, s.Sub(a, w(0))) },
		"SetSlot":  func(s *state.State, a api.Address) { s.SetSlot(a, key(1), w(5)) },
		"Create":   func(s *state.State, a api.Address) { s.Create(a) },
		"Touch":    func(s *state.State, a api.Address) { s.Touch(a) },
	}
	for what, do := range ways {
		for i := range addresses() {
			s := over(some()...)
			did := over(some()...)
			do(did, address(i))
			isEmpty := did.Empty(address(i))
			do(s, address(i))
			s.End()
			wantTrue(t, what+": gone just if it is empty", s.Exists(address(i)) == !isEmpty)
			for j := range some() {
				wantTrue(t, what+": of another", j == i || s.Exists(address(j)))
			}
			wantWord(t, what+": slots of one that is gone", s.Slot(address(3), key(1)), map[bool]api.Word{true: w(31)}[s.Exists(address(3))])
			wantTrue(t, what+": it stays so", told(s) == told(ended(s)))
		}
	}
	for what, do := range map[string]func(s *state.State, a api.Address){ // these touch nothing
		"Sub":        func(s *state.State, a api.Address) { s.Sub(a, w(1)) },
		"SetPassing": func(s *state.State, a api.Address) { s.SetPassing(a, key(1), w(1)) },
		"Destroy":    func(s *state.State, a api.Address) { s.Destroy(a) },
		"Warm":       func(s *state.State, a api.Address) { s.Warm(a); s.WarmSlot(a, key(1)) },
		"asking":     func(s *state.State, a api.Address) { told(s) },
		"taken back": func(s *state.State, a api.Address) { s.Touch(a); s.Create(a); s.Back(0) },
	} {
		s := over(some()...)
		s.Mark()
		do(s, address(2))
		s.Mark()
		do(s, address(4))
		s.End()
		wantTrue(t, what+": the empty one stays", s.Exists(address(2)))
		wantTrue(t, what+": none is made", !s.Exists(address(4)))
	}
}

// ended is the state behind another End.
func ended(s *state.State) *state.State {
	s.End()
	return s
}

func TestEndDestroysFirst(t *testing.T) { // P13.5: whatever an account that is to be destroyed has
	s := over(some()...)
	s.Create(address(0))
	s.SetNonce(address(0), 1)
	s.SetCode(address(0), []byte("c"))
	s.SetSlot(address(0), key(1), w(1))
	s.Destroy(address(0))
	wantTrue(t, "it is there till the End", s.Exists(address(0)) && s.Fresh(address(0)))
	wantErrno(t, "Add", s.Add(address(0), w(7)), api.OK)
	s.Create(address(0)) // created anew it is to be destroyed all the same
	s.End()
	wantTrue(t, "it is gone", !s.Exists(address(0)) && s.Balance(address(0)) == w(0) && s.Slot(address(0), key(1)) == w(0))
	wantChanges(t, "gone", s.Changes(), api.Change{Address: address(0), Gone: true})
	must(t, s.Add(address(0), w(1)))
	wantWord(t, "made anew it has none of its slots", s.Slot(address(0), key(2)), w(0))
	s.End()
	wantTrue(t, "it is not to be destroyed any more", s.Exists(address(0)))
	wantChanges(t, "gone and made anew", s.Changes(), api.Change{Address: address(0), Balance: w(1), Wiped: true})
}
