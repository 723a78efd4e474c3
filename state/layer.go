package state

import (
	"bytes"

	"cairn/api"
	"cairn/word"
)

// held is a change, without its Slots, and these by their keys.
type held struct {
	change api.Change
	slots  table[api.Word, api.Word]
}

// hold answers a change with memory of its own; of several slots of one key the last counts.
func hold(c api.Change) held {
	h := held{change: c, slots: table[api.Word, api.Word]{}}
	h.change.Code = bytes.Clone(c.Code)
	h.change.Slots = nil
	h.setSlots(c.Slots)
	return h
}

func (h held) setSlots(l []api.Slot) {
	for _, slot := range l {
		h.slots[slot.Key] = slot.Value
	}
}

// then answers what h and the change c behind it come to: P13.3. It may take h's slots over, so that many changes of one account are not
// copied again for each.
func (h held) then(c api.Change) held {
	if c.Gone || c.Wiped {
		return hold(c)
	}
	if h.change.Gone {
		c.Wiped = true
		return hold(c)
	}
	h.setSlots(c.Slots)
	c.Wiped = h.change.Wiped
	c.Slots = nil
	return held{change: hold(c).change, slots: h.slots}
}

// told answers the change as others are to see it. It hands over h's memory.
func (h held) told() api.Change {
	c := h.change
	for key, value := range h.slots.inOrder(word.Cmp) {
		c.Slots = append(c.Slots, api.Slot{Key: key, Value: value})
	}
	return c
}

// Merge answers the changes that a and b behind it come to: P13.3
func Merge(a, b []api.Change) []api.Change {
	changes := table[api.Address, held]{}
	for _, l := range [][]api.Change{a, b} {
		for _, c := range l {
			if h, is := changes[c.Address]; is {
				changes[c.Address] = h.then(c)
			} else {
				changes[c.Address] = hold(c)
			}
		}
	}
	var merged []api.Change
	for _, h := range changes.inOrder(byAddress) {
		merged = append(merged, h.told())
	}
	return merged
}

// layer is a base: changes over another one.
type layer struct {
	below   Base
	changes table[api.Address, held]
}

// Over answers a base that tells what b does, but for the accounts of l: P13.3
func Over(b Base, l []api.Change) Base {
	changes := table[api.Address, held]{}
	for _, c := range l {
		changes[c.Address] = hold(c)
	}
	return &layer{below: orNobody(b), changes: changes}
}

// Account: P13.3
func (l *layer) Account(a api.Address) (api.Account, bool) {
	h, is := l.changes[a]
	switch {
	case !is:
		return accountOf(l.below, a)
	case h.change.Gone:
		return api.Account{}, false
	}
	c := h.change
	return api.Account{Address: a, Nonce: c.Nonce, Balance: c.Balance, Code: bytes.Clone(c.Code)}, true
}

// Slot: P13.3
func (l *layer) Slot(a api.Address, key api.Word) api.Word {
	h, is := l.changes[a]
	if !is {
		return slotOf(l.below, a, key)
	}
	if h.change.Gone {
		return api.Word{}
	}
	if value, is := h.slots[key]; is {
		return value
	}
	if h.change.Wiped {
		return api.Word{}
	}
	if _, is := accountOf(l.below, a); !is {
		return api.Word{}
	}
	return slotOf(l.below, a, key)
}
