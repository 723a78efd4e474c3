package pre

import (
	"cairn/api"
	"cairn/gas"
)

// contract is what stands at one of the addresses.
type contract interface {
	// cost answers what an input costs, or the error by which nobody can pay for it.
	cost(input []byte) (uint64, api.Errno)
	// run answers what is said to an input that has a cost, or ErrFails. It is new memory.
	run(input []byte) ([]byte, api.Errno)
}

// contractOf answers the contract n, and whether there is one.
func contractOf(n int) (contract, bool) {
	switch n {
	case 1:
		return signer{3000}, true
	case 2:
		return sha{byWord{60, 12}}, true
	case 3:
		return ripemd{byWord{600, 120}}, true
	case 4:
		return same{byWord{15, 3}}, true
	case 5:
		return power{}, true
	case 6:
		return sum{150}, true
	case 7:
		return multiple{6000}, true
	case 8:
		return pairs{}, true
	case 9:
		return blake{}, true
	case 10:
		return claim{50000}, true
	default:
		return nil, false
	}
}

// fixed is the cost of what is as dear with any input.
type fixed uint64

func (f fixed) cost([]byte) (uint64, api.Errno) { return uint64(f), api.OK }

// byWord is the cost of what is the dearer the more words its input has.
type byWord struct{ once, each uint64 }

func (b byWord) cost(input []byte) (uint64, api.Errno) {
	return b.once + b.each*gas.Words(uint64(len(input))), api.OK
}
