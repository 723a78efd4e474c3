package gas

import (
	"cairn/api"
	"cairn/word"
)

// bytesOfWord is how many bytes a word of memory has.
const bytesOfWord = 32

// Words answers how many words n bytes take: P14.2
func Words(n uint64) uint64 {
	words := n / bytesOfWord
	if n%bytesOfWord > 0 { // n + 31 could wrap round
		words++
	}
	return words
}

// Memory answers what a memory of so many bytes costs in all: P14.2
func Memory(size uint64) uint64 {
	if size > api.MaxMemory {
		return unpayable
	}
	words := Words(size)
	return 3*words + words*words/512
}

// Grow answers how large a memory is once it holds long bytes at that place, and what that costs: P14.2
func Grow(size uint64, at, long api.Word) (uint64, uint64, api.Errno) {
	if long == word.Of(0) {
		return size, 0, api.OK
	}
	end, over := word.Carry(at, long)
	needed, e := inMemory(end)
	if over || size > api.MaxMemory || e != api.OK {
		return 0, 0, api.ErrGas
	}
	grown := max(size, bytesOfWord*Words(needed))
	return grown, Memory(grown) - Memory(size), api.OK
}

// inMemory answers x as a number of bytes, if a memory may have as many.
func inMemory(x api.Word) (uint64, api.Errno) {
	n, small := word.Small(x)
	if !small || n > api.MaxMemory {
		return 0, api.ErrGas
	}
	return n, api.OK
}
