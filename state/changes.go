package state

import (
	"bytes"

	"cairn/api"
	"cairn/word"
)

// Changes answers what has become of the base: P13.10
func (s *State) Changes() []api.Change {
	if !s.isMade() {
		return nil
	}
	var l []api.Change
	for a, x := range s.accounts.inOrder(byAddress) {
		if c, is := s.changeOf(a, x); is {
			l = append(l, c)
		}
	}
	return l
}

// changeOf answers what has become of an account, and whether that is anything.
func (s *State) changeOf(a api.Address, x account) (api.Change, bool) {
	was, had := accountOf(s.base, a)
	if !x.there {
		return api.Change{Address: a, Gone: true}, had
	}
	c := api.Change{Address: a, Nonce: x.nonce, Balance: x.balance, Code: bytes.Clone(x.code), Wiped: had && x.cut}
	for key, value := range x.slots.inOrder(word.Cmp) {
		if value != s.beneath(a, x, key) {
			c.Slots = append(c.Slots, api.Slot{Key: key, Value: value})
		}
	}
	same := had && !c.Wiped && len(c.Slots) == 0 && c.Nonce == was.Nonce && c.Balance == was.Balance && bytes.Equal(c.Code, was.Code)
	return c, !same
}
