package pre

import (
	"cairn/api"
	"cairn/word"
)

// wordBytes is how many bytes of an input a word, a hash or a coordinate takes.
const wordBytes = 32

// cut answers so many bytes of input from a place on, with noughts behind input. It may be a part of input itself, so it is only for
// reading; the third index keeps the noughts from being written behind that part.
func cut(input []byte, from, long int) []byte {
	from = min(from, len(input))
	to := min(from+long, len(input))
	return append(input[from:to:to], make([]byte, long-(to-from))...)
}

// wordAt answers the word at a place of input.
func wordAt(input []byte, from int) api.Word {
	// So many bytes are a word: no error comes of it.
	w, _ := word.Read(cut(input, from, wordBytes))
	return w
}

// atWordsEnd answers a word's bytes, the last of which are b.
func atWordsEnd(b ...byte) []byte {
	return append(make([]byte, wordBytes-len(b), wordBytes), b...)
}
