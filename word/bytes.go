package word

import "cairn/api"

// bytesOfWord is how many bytes a word has.
const bytesOfWord = 32

// Byte answers the byte i of x, 0 the highest: P2.7
func Byte(i, x api.Word) api.Word {
	at, ok := within(i, bytesOfWord)
	if !ok {
		return api.Word{}
	}
	return Of(uint64(Bytes(x)[at]))
}

// Bytes answers the bytes of x, the highest first: P2.8
func Bytes(x api.Word) [32]byte {
	var b [32]byte
	for i := range bytesOfWord {
		b[bytesOfWord-1-i] = byte(x[i/8] >> (8 * (i % 8)))
	}
	return b
}

// Read answers the number whose bytes b are, the highest first: P2.8
func Read(b []byte) (api.Word, api.Errno) {
	if len(b) > bytesOfWord {
		return api.Word{}, api.ErrLong
	}
	var x api.Word
	for i := range len(b) {
		x[i/8] |= uint64(b[len(b)-1-i]) << (8 * (i % 8))
	}
	return x, api.OK
}

// Least answers the bytes of x without leading noughts: P2.8
func Least(x api.Word) []byte {
	b := Bytes(x)
	least := make([]byte, (Bits(x)+7)/8)
	copy(least, b[bytesOfWord-len(least):])
	return least
}
