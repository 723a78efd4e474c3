package kzg

import (
	"cairn/api"
	"cairn/field"
	"cairn/word"
)

const (
	wordBytes  = 32 // bytes of a hash, and of a number below r
	pointBytes = 48 // bytes of a commitment, and of a proof
	claimBytes = 3*wordBytes + 2*pointBytes
)

// longest is how many values a blob has, and so how many terms its polynomial may have.
const longest = 4096

// claim is what an input says: that the polynomial committed to has the value y at z, and that hash is the blob's.
type claim struct {
	hash       api.Hash
	z, y       api.Word
	commitment []byte
	proof      []byte
}

// cut answers the claim of claimBytes bytes. Its lists are parts of the input.
func cut(input []byte) claim {
	next := func(n int) []byte {
		part := input[:n:n]
		input = input[n:]
		return part
	}
	var it claim
	copy(it.hash[:], next(wordBytes))
	// So many bytes are a word: no error comes of it.
	it.z, _ = word.Read(next(wordBytes))
	it.y, _ = word.Read(next(wordBytes))
	it.commitment = next(pointBytes)
	it.proof = next(pointBytes)
	return it
}

// granted answers the bytes that a claim which holds is answered with.
func granted() []byte {
	n, r := word.Bytes(word.Of(longest)), word.Bytes(field.BlsR())
	return append(n[:], r[:]...)
}
