package rlp

import (
	"bytes"
	"slices"

	"cairn/api"
	"cairn/word"
)

// How many bytes a number and a word have at most.
const (
	numberMost = 8
	wholeMost  = 32
)

// Text answers the text of b: P4.5
func Text(b []byte) api.Item { return api.Item{Bytes: copyBytes(b)} }

// Number answers the text of a number's bytes: P4.5
func Number(n uint64) api.Item { return Whole(word.Of(n)) }

// Whole answers the text of a word's bytes: P4.5
func Whole(x api.Word) api.Item { return api.Item{Bytes: word.Least(x)} }

// List answers the list of kids: P4.5
func List(kids ...api.Item) api.Item { return list(copyItems(kids)...) }

// list is the list of kids that nobody else holds.
func list(kids ...api.Item) api.Item { return api.Item{List: 1, Kids: kids} }

// AsNumber answers the number whose bytes x has: P4.6
func AsNumber(x api.Item) (uint64, api.Errno) {
	n, e := readNumber(x, numberMost)
	return n[0], e
}

// AsWhole answers the word whose bytes x has: P4.6
func AsWhole(x api.Item) (api.Word, api.Errno) { return readNumber(x, wholeMost) }

// readNumber answers the number whose bytes x has, if they are no more than most.
func readNumber(x api.Item, most int) (api.Word, api.Errno) {
	switch {
	case x.List != 0:
		return api.Word{}, api.ErrKind
	case len(x.Bytes) > most:
		return api.Word{}, api.ErrSize
	case len(x.Bytes) > 0 && x.Bytes[0] == 0:
		return api.Word{}, api.ErrForm
	}
	return word.Read(x.Bytes)
}

// AsBytes answers the bytes of a text that has least to most of them: P4.6
func AsBytes(x api.Item, least, most int) ([]byte, api.Errno) {
	if x.List != 0 {
		return nil, api.ErrKind
	}
	if len(x.Bytes) < least || len(x.Bytes) > most {
		return nil, api.ErrSize
	}
	return copyBytes(x.Bytes), api.OK
}

// AsList answers the kids of a list that has least to most of them: P4.6
func AsList(x api.Item, least, most int) ([]api.Item, api.Errno) {
	if x.List != 1 {
		return nil, api.ErrKind
	}
	if len(x.Kids) < least || len(x.Kids) > most {
		return nil, api.ErrSize
	}
	return copyItems(x.Kids), api.OK
}

// Same says whether x and y are alike: P4.8
func Same(x, y api.Item) bool {
	return x.List == y.List && bytes.Equal(x.Bytes, y.Bytes) && slices.EqualFunc(x.Kids, y.Kids, Same)
}

// copyBytes answers bytes that share no memory with b.
func copyBytes(b []byte) []byte { return append([]byte(nil), b...) }

// copyItems answers items that share no memory with those of l, nor do their bytes and kids.
func copyItems(l []api.Item) []api.Item {
	own := append([]api.Item(nil), l...)
	for i, x := range own {
		own[i].Bytes = copyBytes(x.Bytes)
		own[i].Kids = copyItems(x.Kids)
	}
	return own
}
