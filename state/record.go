package state

import (
	"cairn/api"
	"cairn/digest"
	"cairn/rlp"
	"cairn/trie"
	"cairn/word"
)

const (
	hashBytes    = 32
	recordFields = 4
)

// record is an account as the state's trie has it.
type record struct {
	nonce   uint64
	balance api.Word
	storage api.Hash // the root of its storage trie
	code    api.Hash // its code's Keccak
}

// form answers the value that a record is in the trie.
func (r record) form() []byte {
	return formOf(rlp.List(rlp.Number(r.nonce), rlp.Whole(r.balance), rlp.Text(r.storage[:]), rlp.Text(r.code[:])))
}

// readRecord answers the record that a value of the trie is: ErrNode, if it is none.
func readRecord(b []byte) (record, api.Errno) {
	x, e := rlp.Decode(b)
	if e != api.OK {
		return record{}, api.ErrNode
	}
	fields, e := rlp.AsList(x, recordFields, recordFields)
	if e != api.OK {
		return record{}, api.ErrNode
	}
	nonce, e1 := rlp.AsNumber(fields[0])
	balance, e2 := rlp.AsWhole(fields[1])
	storage, e3 := rlp.AsBytes(fields[2], hashBytes, hashBytes)
	code, e4 := rlp.AsBytes(fields[3], hashBytes, hashBytes)
	if e1 != api.OK || e2 != api.OK || e3 != api.OK || e4 != api.OK {
		return record{}, api.ErrNode
	}
	return record{nonce: nonce, balance: balance, storage: api.Hash(storage), code: api.Hash(code)}, api.OK
}

// find answers the record that a state's trie has of an account: ErrNone, if it has none.
func find(t *trie.Trie, a api.Address) (record, api.Errno) {
	b, e := t.Get(trie.Secure(a[:]))
	if e != api.OK {
		return record{}, e
	}
	return readRecord(b)
}

// slotKey answers the key of a slot in its storage trie.
func slotKey(key api.Word) []byte {
	b := word.Bytes(key)
	return trie.Secure(b[:])
}

// noCode answers the Keccak of no code.
func noCode() api.Hash { return digest.Keccak(nil) }

// formOf answers the form of an item of this package, which may always be.
func formOf(x api.Item) []byte {
	form, _ := rlp.Encode(x)
	return form
}
