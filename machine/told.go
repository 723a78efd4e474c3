package machine

import (
	"bytes"

	"cairn/api"
	"cairn/word"
)

// Stack answers the words of the stack, the lowest first: P15.4
func (m *Machine) Stack() []api.Word {
	if !m.isMade() {
		return nil
	}
	return m.stack.all()
}

// Memory answers the bytes of the memory: P15.4
func (m *Machine) Memory() []byte {
	if !m.isMade() {
		return nil
	}
	return bytes.Clone(m.memory)
}

// Returned answers what was returned last: P15.4
func (m *Machine) Returned() []byte {
	if !m.isMade() {
		return nil
	}
	return bytes.Clone(m.returned)
}

// Gas answers how much is left: P15.4
func (m *Machine) Gas() uint64 {
	if !m.isMade() {
		return 0
	}
	return m.gas
}

// Place answers where the machine stands, the code's end where it is behind that: P15.4
func (m *Machine) Place() int {
	if !m.isMade() {
		return 0
	}
	return min(m.place, len(m.frame.Code))
}

// Steps answers how many instructions were done: P15.4
func (m *Machine) Steps() int {
	if !m.isMade() {
		return 0
	}
	return m.steps
}

// Word answers the number of an address' bytes: P15.5
func Word(a api.Address) api.Word { return number(a[:]) }

// Address answers the address of a word, its lowest 20 bytes: P15.5
func Address(w api.Word) api.Address {
	b := word.Bytes(w)
	return api.Address(b[len(b)-len(api.Address{}):])
}

// number answers the number of 32 bytes at most.
func number(b []byte) api.Word {
	x, _ := word.Read(b) // fails of more bytes alone
	return x
}

// count answers how many there are, as a word.
func count(n int) api.Word { return word.Of(uint64(n)) }
