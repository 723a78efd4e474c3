package state_test

import (
	"testing"

	"cairn/api"
	"cairn/state"
	"cairn/trie"
)

// nobodys are the states that New did not make.
func nobodys() map[string]*state.State {
	return map[string]*state.State{"nil": nil, "new": new(state.State), "a literal": {}}
}

func TestNobody(t *testing.T) { // P13.1
	none := told(state.New(nil))
	for what, s := range nobodys() {
		wantTold(t, what+", asked", s, none)
		for i, a := range addresses() {
			k := key(i)
			wantErrno(t, what+": Add", s.Add(a, w(0)), api.ErrState)
			wantErrno(t, what+": Add", s.Add(a, most()), api.ErrState)
			wantErrno(t, what+": Sub", s.Sub(a, w(0)), api.ErrState)
			wantErrno(t, what+": Sub of too much", s.Sub(a, w(1)), api.ErrState)
			s.SetNonce(a, 1)
			s.SetCode(a, []byte("code"))
			s.SetSlot(a, k, w(1))
			s.SetPassing(a, k, w(1))
			s.Create(a)
			s.Destroy(a)
			s.Touch(a)
			s.Tell(api.Log{Address: a, Topics: make([]api.Hash, 1), Data: []byte("data")})
			s.AddRefund(5)
			for range 2 {
				wantTrue(t, what+": not warm", !s.Warm(a) && !s.WarmSlot(a, k))
				if mark := s.Mark(); mark != 0 {
					t.Errorf("%s: Mark: %d", what, mark)
				}
			}
			for _, mark := range []int{-1, 0, 1, 1 << 62, -1 << 63} {
				wantErrno(t, what+": Back", s.Back(mark), api.ErrState)
			}
			wantTold(t, what+", changed", s, none)
		}
		s.Begin()
		wantTold(t, what+", begun", s, none)
		s.End()
		wantTold(t, what+", ended", s, none)
	}
}

func TestNoBase(t *testing.T) { // P13.3, P13.4, P1: a base that is nil is one without accounts
	for what, b := range map[string]state.Base{
		"nil": nil, "no accounts": alloc(nil), "no changes": state.Over(nil, nil), "no trie": state.At(nil, trie.Empty()), "no root": state.At(nil, api.Hash{}),
	} {
		s, m := state.New(b), newModel(nil)
		wantTold(t, what, s, told(m))
		r := row(5)
		for range 40 {
			x := r.step()
			if got, want := x.do(s), x.do(m); got != want {
				t.Errorf("%s: %s: got %v, want %v", what, x.what, got, want)
			}
		}
		wantTold(t, what+", changed", s, told(m))
		if b != nil {
			wantBase(t, what, b, foreign(nil).telling())
		}
	}
}

// telling is the foreign base, but that it tells nothing beside false.
func (f foreign) telling() state.Base { return state.Over(f, nil) }

// broken is a base that panics, as one that is a nil pointer may.
type broken struct{ accounts *foreign }

func (b *broken) Account(a api.Address) (api.Account, bool) { return b.accounts.Account(a) }

func (b *broken) Slot(a api.Address, key api.Word) api.Word { return b.accounts.Slot(a, key) }

func TestABaseThatPanics(t *testing.T) { // P1: it tells nothing
	for what, b := range map[string]state.Base{"nil": (*broken)(nil), "empty": new(broken)} {
		none := told(state.New(nil))
		s := state.New(b)
		wantTold(t, what, s, none)
		wantErrno(t, what, s.Sub(address(0), w(1)), api.ErrBalance)
		wantErrno(t, what, s.Add(address(0), w(1)), api.OK)
		s.SetSlot(address(1), key(1), w(5))
		wantChanges(t, what, s.Changes(),
			api.Change{Address: address(0), Balance: w(1)}, api.Change{Address: address(1), Slots: []api.Slot{slot(1, 5)}})
		over := state.Over(b, []api.Change{{Address: address(1), Nonce: 1}})
		wantBase(t, what+", a layer over it", over, alloc([]api.Account{account(1, 1, 0, "")}))
	}
}

func TestABaseThatLies(t *testing.T) { // an account that isn't there has no slots, whatever a base says; none is told with its slots
	for what, b := range map[string]state.Base{"foreign": slotty{}, "over": state.Over(slotty{}, nil)} {
		s := state.New(b)
		wantTrue(t, what+": not there", !s.Exists(address(0)) && s.Exists(address(1)))
		wantWord(t, what+": of none", s.Slot(address(0), key(1)), w(0))
		wantWord(t, what+": of none at first", s.First(address(0), key(1)), w(0))
		wantWord(t, what+": of one", s.Slot(address(1), key(1)), w(7))
		s.SetNonce(address(0), 1)
		wantWord(t, what+": of one that was made", s.Slot(address(0), key(1)), w(0))
		s.SetSlot(address(0), key(1), w(7))
		wantChanges(t, what, s.Changes(), api.Change{Address: address(0), Nonce: 1, Slots: []api.Slot{slot(1, 7)}})
		wantWord(t, what+": a layer", state.Over(b, s.Changes()).Slot(address(0), key(2)), w(0))
	}
	if x, is := state.Over(slotty{}, nil).Account(address(1)); !is || len(x.Slots) > 0 {
		t.Errorf("with slots: %v", x)
	}
}

// slotty is a base that has one account but tells slots of all.
type slotty struct{}

func (slotty) Account(a api.Address) (api.Account, bool) {
	return api.Account{Address: a, Slots: []api.Slot{slot(1, 7)}}, a == address(1)
}

func (slotty) Slot(api.Address, api.Word) api.Word { return w(7) }
