package state

import (
	"bytes"

	"cairn/api"
	"cairn/word"
)

// set lets an account be x, and touches it.
func (s *State) set(a api.Address, x account) {
	x.there = true
	s.now.journal.note(s.accounts.put(a, x))
	s.touch(a)
}

func (s *State) touch(a api.Address) { include(&s.now.journal, s.now.touched, a) }

// SetNonce: P13.7
func (s *State) SetNonce(a api.Address, n uint64) {
	if !s.isMade() {
		return
	}
	x := s.account(a)
	x.nonce = n
	s.set(a, x)
}

// SetCode: P13.7
func (s *State) SetCode(a api.Address, code []byte) {
	if !s.isMade() {
		return
	}
	x := s.account(a)
	x.code = bytes.Clone(code)
	s.set(a, x)
}

// Add gives an account more: P13.7
func (s *State) Add(a api.Address, v api.Word) api.Errno { return s.pay(a, v, word.Carry) }

// Sub takes from an account: P13.7
func (s *State) Sub(a api.Address, v api.Word) api.Errno { return s.pay(a, v, word.Borrow) }

// pay lets an account's balance be what reckon makes of it and v, unless reckon says that there is no such word.
func (s *State) pay(a api.Address, v api.Word, reckon func(x, y api.Word) (api.Word, bool)) api.Errno {
	if !s.isMade() {
		return api.ErrState
	}
	x := s.account(a)
	balance, beyond := reckon(x.balance, v)
	if beyond {
		return api.ErrBalance
	}
	x.balance = balance
	s.set(a, x)
	return api.OK
}

// SetSlot gives a slot a value: P13.7
func (s *State) SetSlot(a api.Address, key, value api.Word) {
	if !s.isMade() {
		return
	}
	s.keepFirst(a, key)
	x := s.account(a)
	if x.slots == nil {
		x.slots = table[api.Word, api.Word]{}
	}
	s.set(a, x)
	s.now.journal.note(x.slots.put(key, value))
}

// keepFirst keeps what a slot has that was not set yet in this transaction. That need not be taken back: as long as the transaction lasts
// it stays what the slot had at its beginning.
func (s *State) keepFirst(a api.Address, key api.Word) {
	at := place{address: a, key: key}
	if _, is := s.now.first[at]; !is && !s.Fresh(a) {
		s.now.first[at] = s.Slot(a, key)
	}
}

// SetPassing gives what passes with the transaction a value: P13.7
func (s *State) SetPassing(a api.Address, key, value api.Word) {
	if s.isMade() {
		s.now.journal.note(s.now.passing.put(place{address: a, key: key}, value))
	}
}

// Create makes an account anew, with the balance that it has: P13.7
func (s *State) Create(a api.Address) {
	if !s.isMade() {
		return
	}
	s.set(a, account{balance: s.Balance(a), cut: true})
	include(&s.now.journal, s.now.fresh, a)
}

// Destroy lets a fresh account be gone at the End: P13.7
func (s *State) Destroy(a api.Address) {
	if s.Fresh(a) { // what is fresh is there till the End
		include(&s.now.journal, s.now.doomed, a)
	}
}

// Touch touches an account that is there: P13.7
func (s *State) Touch(a api.Address) {
	if s.Exists(a) {
		s.touch(a)
	}
}
