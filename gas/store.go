package gas

import (
	"cairn/api"
	"cairn/word"
)

// Slot answers what it costs to touch a slot: P14.3
func Slot(warm bool) uint64 {
	if warm {
		return warmTouch
	}
	return coldSlot
}

// Store answers what it costs to give a slot the value next, and what is refunded for it: P14.4
func Store(first, now, next api.Word, warm bool) (uint64, int) {
	sum := storing(first, now, next)
	if !warm {
		sum += coldSlot
	}
	return sum, refunded(first, now, next)
}

// storing answers what it costs to give a slot that is warm the value next.
func storing(first, now, next api.Word) uint64 {
	switch {
	case next == now || now != first:
		return warmTouch
	case isNought(first):
		return 20000
	}
	return 2900
}

// refunded answers what comes back, or was given back too early, as a slot gets the value next.
func refunded(first, now, next api.Word) int {
	const cleared = 4800
	if next == now {
		return 0
	}
	sum := 0
	if !isNought(first) && isNought(now) {
		sum -= cleared
	}
	if !isNought(first) && isNought(next) {
		sum += cleared
	}
	if next == first {
		sum += undone(first)
	}
	return sum
}

// undone answers what comes back where a slot has again what it had first: what the way off cost, less what the way back did.
func undone(first api.Word) int {
	if isNought(first) {
		return 19900
	}
	return 2800
}

func isNought(x api.Word) bool { return x == word.Of(0) }
