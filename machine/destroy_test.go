package machine_test

import (
	"testing"

	"cairn/api"
	"cairn/state"
	"cairn/word"
)

// destroyed does a SELFDESTRUCT to an address.
func destroyed(t *testing.T, to api.Address, ready func(s *state.State)) *state.State {
	t.Helper()
	m, s, v := trial{op: 0xff, words: []api.Word{spoilt(to)}, ready: ready, behind: []byte{0xfe}}.do(t)
	wantEvent(t, "SELFDESTRUCT", v, api.Event{Kind: api.EventStop})
	wantStack(t, "SELFDESTRUCT", m)
	wantNumber(t, "SELFDESTRUCT: the place", uint64(m.Place()), 34)
	wantTrue(t, "the heir is warm, and nobody else", s.Warm(to) && (s.Warm(self) == (to == self)) && !s.Warm(caller))
	return s
}

func wantBalance(t *testing.T, what string, s *state.State, a api.Address, want api.Word) {
	t.Helper()
	if got := s.Balance(a); got != want {
		t.Errorf("%s: got the balance %s of %x, want %s", what, word.Dec(got), a, word.Dec(want))
	}
}

// fresh makes Self anew, with the balance that it has.
func fresh(s *state.State) { s.Create(self); s.SetNonce(self, 1) }

func poor(s *state.State) { s.Sub(self, s.Balance(self)) }

func TestDestroyToAnother(t *testing.T) { // 15.2
	for to, had := range map[api.Address]api.Word{bare: {9, 8}, coded: w(77), empty: {}, absent: {}, twin: w(7)} {
		s := destroyed(t, to, nil)
		wantBalance(t, "the heir", s, to, word.Add(had, w(1000)))
		wantBalance(t, "Self", s, self, w(0))
		s.End()
		wantTrue(t, "what isn't fresh stays", s.Exists(self) && s.Nonce(self) == 1 && len(s.Code(self)) == 6 && s.Slot(self, w(1)) == w(5))
		wantBalance(t, "the heir at the end", s, to, word.Add(had, w(1000)))

		s = destroyed(t, to, fresh)
		wantBalance(t, "the heir", s, to, word.Add(had, w(1000)))
		wantTrue(t, "what is fresh is there till the end", s.Exists(self) && s.Nonce(self) == 1)
		wantBalance(t, "Self", s, self, w(0))
		s.End()
		wantTrue(t, "what is fresh is gone at the end", !s.Exists(self))
		wantBalance(t, "the heir at the end", s, to, word.Add(had, w(1000)))
	}
}

func TestDestroyToItself(t *testing.T) { // 15.2
	s := destroyed(t, self, nil)
	wantBalance(t, "Self keeps it", s, self, w(1000))
	s.End()
	wantTrue(t, "Self stays", s.Balance(self) == w(1000) && s.Nonce(self) == 1 && s.Slot(self, w(1)) == w(5))

	s = destroyed(t, self, fresh)
	wantBalance(t, "what is fresh has nothing", s, self, w(0))
	wantTrue(t, "it is there till the end", s.Exists(self))
	s.End()
	wantTrue(t, "and gone then", !s.Exists(self))
}

func TestDestroyToOneThatIsFull(t *testing.T) { // 15.2: where the other's would come to 2^256 or more, nothing goes
	s := destroyed(t, full, nil)
	wantBalance(t, "the other", s, full, most())
	wantBalance(t, "Self", s, self, w(1000))
	s.End()
	wantBalance(t, "Self", s, self, w(1000))

	s = destroyed(t, full, fresh)
	wantBalance(t, "the other", s, full, most())
	wantBalance(t, "Self", s, self, w(1000))
	s.End()
	wantTrue(t, "it is Destroyed all the same", !s.Exists(self))

	just := func(s *state.State) { s.Sub(full, w(1000)) }
	s = destroyed(t, full, just)
	wantBalance(t, "just room enough", s, full, most())
	wantBalance(t, "just room enough", s, self, w(0))
	s = destroyed(t, full, func(s *state.State) { s.Sub(full, w(999)) })
	wantBalance(t, "one too little", s, self, w(1000))
	s = destroyed(t, full, poor)
	wantBalance(t, "nothing to go", s, full, most())
}

func TestDestroyOfNothing(t *testing.T) { // 15.2: a balance of 0
	for _, to := range []api.Address{bare, empty, absent, self} {
		had := newState().Balance(to)
		if to == self {
			had = w(0)
		}
		s := destroyed(t, to, poor)
		wantBalance(t, "the heir", s, to, had)
		s.End()
		wantTrue(t, "what is empty is gone at the end", !s.Exists(empty) || to != empty)
		wantTrue(t, "what was not there isn't either", !s.Exists(absent))
		wantTrue(t, "Self stays", s.Nonce(self) == 1)
	}
}

func TestCostOfDestroy(t *testing.T) { // 15.2
	heir := func(to api.Address, warm bool, more func(s *state.State)) trial {
		return trial{op: 0xff, words: []api.Word{of(to)}, ready: func(s *state.State) {
			if warm {
				s.Warm(to)
			}
			if more != nil {
				more(s)
			}
		}}
	}
	wantCost(t, "cold", heir(bare, false, nil), 5000, 2600)
	wantCost(t, "warm", heir(bare, true, nil), 5000)
	wantCost(t, "cold, empty", heir(empty, false, nil), 5000, 2600, 25000)
	wantCost(t, "warm, empty", heir(empty, true, nil), 5000, 25000)
	wantCost(t, "cold, not there", heir(absent, false, nil), 5000, 2600, 25000)
	wantCost(t, "warm, not there", heir(absent, true, nil), 5000, 25000)
	wantCost(t, "cold, empty, of nothing", heir(empty, false, poor), 5000, 2600)
	wantCost(t, "warm, not there, of nothing", heir(absent, true, poor), 5000)
	wantCost(t, "cold, itself", heir(self, false, nil), 5000, 2600)
	wantCost(t, "warm, itself", heir(self, true, nil), 5000)
	wantCost(t, "cold, itself, fresh", heir(self, false, fresh), 5000, 2600)
	for left, warm := range map[uint64]bool{0: false, 4999: false, 5000: true, 7599: true, 7600: true, 32599: true} {
		s := wantRefused(t, "one that is empty", heir(empty, false, nil), left, api.ErrGas)
		wantTrue(t, "warm, where it came to that", s.Warm(empty) == warm)
	}
}
