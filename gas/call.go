package gas

import (
	"cairn/api"
	"cairn/word"
)

// Exp answers what the bytes of an exponent cost: P14.3
func Exp(y api.Word) uint64 {
	used := (word.Bits(y) + 7) / 8
	return 50 * uint64(used)
}

// Account answers what it costs to touch an account: P14.3
func Account(warm bool) uint64 {
	if warm {
		return warmTouch
	}
	return coldAccount
}

// Call answers what a call costs beside the gas that it hands on: P14.5
func Call(warm, paid, fresh bool) uint64 {
	sum := Account(warm)
	if paid {
		sum += 9000
	}
	if paid && fresh {
		sum += 25000
	}
	return sum
}

// Forward answers how much of the gas that is left a call hands on: P14.5
func Forward(left uint64, asked api.Word) uint64 {
	most := left - left/64
	if n, small := word.Small(asked); small && n < most {
		return n
	}
	return most
}

// Refund answers how much is given back of what was used: P14.5
func Refund(used uint64, refund int) uint64 {
	return min(used/5, uint64(max(refund, 0)))
}
