package state

import (
	"bytes"

	"cairn/api"
	"cairn/digest"
)

// Exists answers whether an account is there: P13.6
func (s *State) Exists(a api.Address) bool { return s.account(a).there }

// Empty answers whether an account has nonce 0, balance 0 and no code, or is not there: P13.6
func (s *State) Empty(a api.Address) bool { return s.account(a).isEmpty() }

// Nonce: P13.6
func (s *State) Nonce(a api.Address) uint64 { return s.account(a).nonce }

// Balance: P13.6
func (s *State) Balance(a api.Address) api.Word { return s.account(a).balance }

// Code: P13.6
func (s *State) Code(a api.Address) []byte { return bytes.Clone(s.account(a).code) }

// CodeHash answers the Keccak of an account's code, noughts where it is not there: P13.6
func (s *State) CodeHash(a api.Address) api.Hash {
	x := s.account(a)
	if !x.there {
		return api.Hash{}
	}
	return digest.Keccak(x.code)
}

// Slot answers what a slot has now: P13.6
func (s *State) Slot(a api.Address, key api.Word) api.Word {
	x := s.account(a)
	if value, is := x.slots[key]; is {
		return value
	}
	return s.beneath(a, x, key)
}

// beneath answers what a slot of an account has that was not set.
func (s *State) beneath(a api.Address, x account, key api.Word) api.Word {
	if x.cut {
		return api.Word{}
	}
	return slotOf(s.base, a, key)
}

// First answers what a slot had when the transaction began: P13.6
func (s *State) First(a api.Address, key api.Word) api.Word {
	if s.Fresh(a) {
		return api.Word{}
	}
	if s.isMade() {
		if value, is := s.now.first[place{address: a, key: key}]; is {
			return value
		}
	}
	return s.Slot(a, key)
}

// Passing answers what passes with the transaction: P13.6
func (s *State) Passing(a api.Address, key api.Word) api.Word {
	if !s.isMade() {
		return api.Word{}
	}
	return s.now.passing[place{address: a, key: key}]
}

// Used answers whether an account's nonce isn't 0, or it has code: P13.6
func (s *State) Used(a api.Address) bool { return s.account(a).isUsed() }

// Fresh answers whether an account was created in this transaction: P13.6
func (s *State) Fresh(a api.Address) bool {
	if !s.isMade() {
		return false
	}
	_, is := s.now.fresh[a]
	return is
}
