package state_test

import (
	"testing"

	"cairn/api"
	"cairn/state"
)

func TestChanges(t *testing.T) { // P13.10
	full := change(some()[0])
	full.Slots = nil
	with := func(by func(c *api.Change)) []api.Change {
		c := full
		by(&c)
		return []api.Change{c}
	}
	a, none := address(0), address(4)
	for what, x := range map[string]struct {
		do   func(s *state.State)
		want []api.Change
	}{
		"nothing":           {func(s *state.State) {}, nil},
		"a nonce":           {func(s *state.State) { s.SetNonce(a, 4) }, with(func(c *api.Change) { c.Nonce = 4 })},
		"a balance":         {func(s *state.State) { s.Add(a, w(1)) }, with(func(c *api.Change) { c.Balance = w(101) })},
		"a code":            {func(s *state.State) { s.SetCode(a, []byte("cod")) }, with(func(c *api.Change) { c.Code = []byte("cod") })},
		"a slot":            {func(s *state.State) { s.SetSlot(a, key(1), w(1)) }, with(func(c *api.Change) { c.Slots = []api.Slot{slot(1, 1)} })},
		"a slot taken away": {func(s *state.State) { s.SetSlot(a, key(1), w(0)) }, with(func(c *api.Change) { c.Slots = []api.Slot{slot(1, 0)} })},
		"slots in order": {func(s *state.State) {
			for _, i := range []int{5, 0, 6, 3, 4} {
				s.SetSlot(a, key(i), w(uint64(i+50)))
			}
		}, with(func(c *api.Change) {
			c.Slots = []api.Slot{slot(0, 50), slot(3, 53), slot(4, 54), slot(5, 55), slot(6, 56)}
		})},
		"as the base tells, all of it": {func(s *state.State) {
			s.SetNonce(a, 9)
			s.SetNonce(a, 3)
			s.SetCode(a, nil)
			s.SetCode(a, []byte("code"))
			s.Sub(a, w(100))
			s.Add(a, w(100))
			s.SetSlot(a, key(1), w(1))
			s.SetSlot(a, key(1), w(11))
			s.SetSlot(a, key(0), w(1))
			s.SetSlot(a, key(0), w(0))
		}, nil},
		"as the base tells, transactions later": {func(s *state.State) {
			s.SetSlot(a, key(1), w(1))
			s.SetNonce(a, 9)
			s.End()
			s.SetNonce(a, 3)
			s.Begin()
			s.SetSlot(a, key(1), w(11))
		}, nil},
		"one of two slots back": {func(s *state.State) {
			s.SetSlot(a, key(1), w(1))
			s.SetSlot(a, key(2), w(2))
			s.SetSlot(a, key(1), w(11))
		}, with(func(c *api.Change) { c.Slots = []api.Slot{slot(2, 2)} })},
		"made":                   {func(s *state.State) { s.SetNonce(none, 1) }, []api.Change{{Address: none, Nonce: 1}}},
		"made, empty":            {func(s *state.State) { s.SetNonce(none, 0) }, []api.Change{{Address: none}}},
		"made and gone":          {func(s *state.State) { s.SetNonce(none, 0); s.End() }, nil},
		"made, gone, made again": {func(s *state.State) { s.SetNonce(none, 0); s.End(); s.SetNonce(none, 2) }, []api.Change{{Address: none, Nonce: 2}}},
		"made and taken back":    {func(s *state.State) { m := s.Mark(); s.SetNonce(none, 1); s.Back(m) }, nil},
		"created where there was none": {func(s *state.State) {
			s.Create(none)
			s.SetSlot(none, key(2), w(2))
			s.SetSlot(none, key(1), w(1))
			s.SetSlot(none, key(0), w(0))
		}, []api.Change{{Address: none, Slots: []api.Slot{slot(1, 1), slot(2, 2)}}}},
		"created": {func(s *state.State) { s.Create(a) }, []api.Change{{Address: a, Balance: w(100), Wiped: true}}},
		"created, as it was": {func(s *state.State) {
			s.Create(a)
			s.SetNonce(a, 3)
			s.SetCode(a, []byte("code"))
			for _, x := range some()[0].Slots {
				s.SetSlot(a, x.Key, x.Value)
			}
		}, with(func(c *api.Change) { c.Wiped, c.Slots = true, some()[0].Slots })},
		"created, a slot of 0": {func(s *state.State) {
			s.Create(a)
			s.SetSlot(a, key(1), w(0))
			s.SetSlot(a, key(2), w(12))
		}, []api.Change{{Address: a, Balance: w(100), Wiped: true, Slots: []api.Slot{slot(2, 12)}}}},
		"created, transactions later": {func(s *state.State) { s.Create(a); s.End(); s.SetNonce(a, 1); s.End() }, []api.Change{{Address: a, Nonce: 1, Balance: w(100), Wiped: true}}},
		"created and taken back":      {func(s *state.State) { m := s.Mark(); s.Create(a); s.SetSlot(a, key(1), w(1)); s.Back(m) }, nil},
		"created and changed, the creation taken back": {func(s *state.State) {
			s.SetSlot(a, key(2), w(7))
			m := s.Mark()
			s.Create(a)
			s.SetSlot(a, key(1), w(1))
			s.Back(m)
		}, with(func(c *api.Change) { c.Slots = []api.Slot{slot(2, 7)} })},
		"gone":                   {func(s *state.State) { s.Create(a); s.Destroy(a); s.End() }, []api.Change{{Address: a, Gone: true}}},
		"to be gone":             {func(s *state.State) { s.Create(a); s.Destroy(a) }, []api.Change{{Address: a, Balance: w(100), Wiped: true}}},
		"gone, for it was empty": {func(s *state.State) { s.Touch(address(3)); s.End() }, []api.Change{{Address: address(3), Gone: true}}},
		"gone and made anew": {func(s *state.State) {
			s.Touch(address(3))
			s.End()
			s.Add(address(3), w(1))
		}, []api.Change{{Address: address(3), Balance: w(1), Wiped: true}}},
		"gone and made anew, as it was": {func(s *state.State) {
			s.Touch(address(3))
			s.End()
			s.SetSlot(address(3), key(1), w(31))
		}, []api.Change{{Address: address(3), Wiped: true, Slots: []api.Slot{slot(1, 31)}}}},
		"gone, made anew and taken back": {func(s *state.State) {
			s.Touch(address(3))
			s.End()
			m := s.Mark()
			s.SetSlot(address(3), key(1), w(31))
			s.Back(m)
		}, []api.Change{{Address: address(3), Gone: true}}},
		"in order": {func(s *state.State) {
			for _, i := range []int{5, 2, 4, 1} {
				s.SetNonce(address(i), 8)
			}
		}, []api.Change{
			{Address: address(1), Nonce: 8, Balance: w(5)}, {Address: address(2), Nonce: 8}, {Address: address(4), Nonce: 8}, {Address: address(5), Nonce: 8},
		}},
	} {
		for kind, b := range bases(some()) {
			s := state.New(b)
			x.do(s)
			wantChanges(t, what+", over "+kind, s.Changes(), x.want...)
			wantChanges(t, what+", asked again", s.Changes(), x.want...)
		}
	}
}
