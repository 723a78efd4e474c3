package gas

import "cairn/api"

// unpayable is more than anybody has.
const unpayable = api.MaxGas + 1

// What has been touched already in the transaction is warm.
const (
	warmTouch   = 100
	coldAccount = 2600
	coldSlot    = 2100
)

// cost is the number of what an opcode costs in any case.
type cost int

const (
	free cost = iota // nothing, or what hangs on more than the opcode
	landing
	base
	veryLow
	low
	mid
	high
	blockHash
	hashing
	passing
	logging
	destroying
	creating
)

// gas answers what a cost is in gas.
func (c cost) gas() uint64 {
	return [...]uint64{
		free:       0,
		landing:    1,
		base:       2,
		veryLow:    3,
		low:        5,
		mid:        8,
		high:       10,
		blockHash:  20,
		hashing:    30,
		passing:    100,
		logging:    ofLog,
		destroying: 5000,
		creating:   32000,
	}[c]
}
