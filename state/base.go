package state

import (
	"bytes"

	"cairn/api"
)

// Base is what a state stands over.
type Base interface {
	// Account tells an account without its slots; false: there is none.
	Account(a api.Address) (api.Account, bool)
	// Slot tells a place of an account's storage; 0: nothing is there.
	Slot(a api.Address, key api.Word) api.Word
}

// nobody is a base without accounts.
type nobody struct{}

func (nobody) Account(api.Address) (api.Account, bool) { return api.Account{}, false }

func (nobody) Slot(api.Address, api.Word) api.Word { return api.Word{} }

// orNobody answers b, or a base without accounts where there is none.
func orNobody(b Base) Base {
	if b == nil {
		return nobody{}
	}
	return b
}

// accountOf answers an account that a base tells. The base is somebody else's: if it panics, it tells nothing, so that no call of this
// package does; what it tells may be its own memory.
func accountOf(b Base, a api.Address) (x api.Account, is bool) {
	defer func() {
		if recover() != nil {
			x, is = api.Account{}, false
		}
	}()
	x, is = b.Account(a)
	if !is {
		return api.Account{}, false
	}
	x.Code = bytes.Clone(x.Code)
	x.Slots = nil
	return x, true
}

// slotOf answers a slot that a base tells, likewise.
func slotOf(b Base, a api.Address, key api.Word) (value api.Word) {
	defer func() {
		if recover() != nil {
			value = api.Word{}
		}
	}()
	return b.Slot(a, key)
}

// Alloc answers a base with these accounts: P13.2
func Alloc(l []api.Account) (Base, api.Errno) {
	accounts := table[api.Address, held]{}
	for _, x := range l {
		h := hold(api.Change{Address: x.Address, Nonce: x.Nonce, Balance: x.Balance, Code: x.Code, Slots: x.Slots})
		if _, is := accounts[x.Address]; is || len(h.slots) < len(x.Slots) || hasNought(x.Slots) {
			return nil, api.ErrAlloc
		}
		accounts[x.Address] = h
	}
	return &layer{below: nobody{}, changes: accounts}, api.OK
}

// hasNought answers whether a slot has the value 0.
func hasNought(l []api.Slot) bool {
	for _, slot := range l {
		if slot.Value == (api.Word{}) {
			return true
		}
	}
	return false
}
