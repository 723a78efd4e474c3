package state

import (
	"bytes"
	"math"
	"slices"

	"cairn/api"
)

// Warm makes an address warm, and answers whether it was: P13.8
func (s *State) Warm(a api.Address) bool {
	return s.isMade() && include(&s.now.journal, s.now.warm, a)
}

// WarmSlot makes a slot warm, and answers whether it was: P13.8
func (s *State) WarmSlot(a api.Address, key api.Word) bool {
	return s.isMade() && include(&s.now.journal, s.now.warmSlots, place{address: a, key: key})
}

// Tell puts a log behind the others: P13.8
func (s *State) Tell(l api.Log) {
	if !s.isMade() {
		return
	}
	many := len(s.now.logs)
	s.now.logs = append(s.now.logs, copyLog(l))
	s.now.journal.note(func() { s.now.logs = s.now.logs[:many] })
}

// Logs answers the transaction's logs: P13.8
func (s *State) Logs() []api.Log {
	if !s.isMade() {
		return nil
	}
	var l []api.Log
	for _, log := range s.now.logs {
		l = append(l, copyLog(log))
	}
	return l
}

// copyLog answers a log that shares no memory with l.
func copyLog(l api.Log) api.Log {
	return api.Log{Address: l.Address, Topics: slices.Clone(l.Topics), Data: bytes.Clone(l.Data)}
}

// Refund answers the transaction's refund: P13.8
func (s *State) Refund() uint64 {
	if !s.isMade() {
		return 0
	}
	return s.now.refund
}

// AddRefund lets the refund be by more: P13.8
func (s *State) AddRefund(by int) {
	if !s.isMade() {
		return
	}
	old := s.now.refund
	s.now.refund = refundWith(old, by)
	s.now.journal.note(func() { s.now.refund = old })
}

// refundWith answers a refund, which is at most 2^63 - 1, by more, as far as there may be such a one.
func refundWith(refund uint64, by int) uint64 {
	if by >= 0 {
		return min(refund+uint64(by), math.MaxInt64)
	}
	less := -uint64(by) // right for the least int, too, of which there is no negative
	return refund - min(less, refund)
}
