package trie

import (
	"slices"

	"cairn/api"
)

// The high four bits of a prefix's first byte: their sum, of what applies.
const (
	oddFlag  = 1 // the first nibble stands in the same byte
	leafFlag = 2
)

// Nibbles answers the nibbles of b, of each byte the high four bits ahead: 12.1
func Nibbles(b []byte) []byte {
	l := make([]byte, 0, 2*len(b))
	for _, c := range b {
		l = append(l, c>>4, c&15)
	}
	return l
}

// packed answers the bytes whose nibbles these are, of which there is an even number.
func packed(nibbles []byte) []byte {
	b := make([]byte, 0, len(nibbles)/2)
	for two := range slices.Chunk(nibbles, 2) {
		b = append(b, two[0]<<4|two[1]&15)
	}
	return b
}

// Prefix answers nibbles as bytes, which say whether they are a leaf's: P12.1
func Prefix(nibbles []byte, leaf bool) []byte {
	var flags byte
	if leaf {
		flags = leafFlag
	}
	if len(nibbles)%2 == 0 {
		return packed(slices.Concat([]byte{flags, 0}, nibbles))
	}
	return packed(slices.Concat([]byte{flags + oddFlag}, nibbles))
}

// Unprefix answers the nibbles of a prefix, and whether they are a leaf's: P12.1
func Unprefix(b []byte) ([]byte, bool, api.Errno) {
	if len(b) == 0 || b[0]>>4 > leafFlag+oddFlag {
		return nil, false, api.ErrNibble
	}
	l := Nibbles(b)
	isLeaf, isOdd := l[0]&leafFlag != 0, l[0]&oddFlag != 0
	switch {
	case isOdd:
		return l[1:], isLeaf, api.OK
	case l[1] == 0:
		return l[2:], isLeaf, api.OK
	}
	return nil, false, api.ErrNibble
}
