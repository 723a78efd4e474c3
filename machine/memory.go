package machine

import (
	"cairn/api"
	"cairn/word"
)

// bytesOfWord is how many bytes a word has.
const bytesOfWord = 32

// room is a part of the memory, as code tells it; one that is 0 long may begin anywhere.
type room struct{ at, long api.Word }

// roomOf answers the room of so many bytes.
func roomOf(at api.Word, long int) room { return room{at: at, long: count(long)} }

// part answers the memory's bytes of a room for which it has grown. They are the memory itself.
func (m *Machine) part(r room) []byte {
	if r.long == (api.Word{}) {
		return nil
	}
	from, long := r.at[0], r.long[0] // what the memory has room for is small
	return m.memory[from : from+long]
}

// lay lets to be the bytes of from that begin at a place, and 0 beyond its end.
func lay(to, from []byte, at api.Word) {
	n := 0
	if place, small := word.Small(at); small && place < uint64(len(from)) {
		n = copy(to, from[place:])
	}
	clear(to[n:])
}

// numberAt answers the number of so many bytes of from that begin at a place, 0 beyond its end.
func numberAt(from []byte, at api.Word, long int) api.Word {
	var b [bytesOfWord]byte
	lay(b[:long], from, at)
	return number(b[:long])
}
