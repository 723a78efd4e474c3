package gas

import (
	"bytes"
	"iter"

	"cairn/opcode"
)

// Dest answers whether a place is one of Dests: P14.6
func Dest(code []byte, at int) bool {
	for place, op := range instructions(code) {
		if place >= at {
			return place == at && op == opcode.Jumpdest
		}
	}
	return false
}

// Dests goes over the places that one may jump to: P14.6
func Dests(code []byte) iter.Seq[int] {
	all := Codes(code)
	return func(yield func(int) bool) {
		for place, op := range all {
			if op == opcode.Jumpdest && !yield(place) {
				return
			}
		}
	}
}

// Codes goes over the instructions of code, their places and opcodes: P14.6. They are those of the call, so that whoever ranges may
// work on code meanwhile.
func Codes(code []byte) iter.Seq2[int, byte] { return instructions(bytes.Clone(code)) }

// instructions goes over the instructions of code as it stands.
func instructions(code []byte) iter.Seq2[int, byte] {
	return func(yield func(int, byte) bool) {
		for place := 0; place < len(code); place += 1 + dataOf(code[place]) {
			if !yield(place, code[place]) {
				return
			}
		}
	}
}
