package wal

import (
	"iter"

	"cairn/api"
	"cairn/digest"
)

// How many bytes the parts of a batch's bytes have.
const (
	lengthBytes = 4 // of a length, and of how many records there are
	numberBytes = 8 // of a batch's number
	sealBytes   = 8 // of the digest at the end

	headBytes   = numberBytes + lengthBytes // ahead of a body's records
	aroundBytes = lengthBytes + sealBytes   // around a body
)

// Encode answers the bytes of a batch of that number: P10.2
func Encode(number int, batch [][]byte) ([]byte, api.Errno) {
	if number < 0 {
		return nil, api.ErrRange
	}
	long, ok := bodyLength(batch)
	if !ok {
		return nil, api.ErrBatch
	}
	b := make([]byte, 0, long+aroundBytes)
	b = putNumber(b, uint64(long), lengthBytes)
	b = putNumber(b, uint64(number), numberBytes)
	b = putNumber(b, uint64(len(batch)), lengthBytes)
	for _, record := range batch {
		b = putNumber(b, uint64(len(record)), lengthBytes)
		b = append(b, record...)
	}
	return putNumber(b, seal(b), sealBytes), api.OK
}

// bodyLength answers how many bytes the body of a batch has, and whether it is a batch.
func bodyLength(batch [][]byte) (int, bool) {
	if len(batch) < 1 || len(batch) > api.MaxBatch {
		return 0, false
	}
	long := headBytes
	for _, record := range batch {
		if len(record) > api.MaxRecord {
			return 0, false
		}
		long += lengthBytes + len(record)
		if long > api.MaxBody {
			return 0, false
		}
	}
	return long, true
}

// Read answers the batches of the whole beginning of b, in order, and how many bytes that has: P10.2
func Read(b []byte) ([][][]byte, int) {
	var batches [][][]byte
	at := 0
whole:
	for {
		body, sealed := sealedBody(b[at:])
		if !sealed || readNumber(body[:numberBytes]) != uint64(len(batches)) {
			break
		}
		var batch [][]byte
		for record, ok := range records(body) {
			if !ok {
				break whole
			}
			batch = append(batch, record)
		}
		batches = append(batches, copyBatch(batch))
		at += len(body) + aroundBytes
	}
	return batches, at
}

// sealedBody answers the body that stands first in b, as a part of it, if it is all there with its seal; what is in it behind its head
// may yet be no batch's.
func sealedBody(b []byte) ([]byte, bool) {
	if len(b) < aroundBytes {
		return nil, false
	}
	n := readNumber(b[:lengthBytes])
	if n < headBytes || n > api.MaxBody || n > uint64(len(b)-aroundBytes) {
		return nil, false
	}
	end := lengthBytes + int(n)
	if seal(b[:end]) != readNumber(b[end:end+sealBytes]) {
		return nil, false
	}
	return b[lengthBytes:end], true
}

// records tells the records of a body, as parts of it, each with true; and ends with false where it finds that it is no batch's.
func records(body []byte) iter.Seq2[[]byte, bool] {
	return func(yield func([]byte, bool) bool) {
		count, rest := readNumber(body[numberBytes:headBytes]), body[headBytes:]
		if count < 1 || count > api.MaxBatch {
			yield(nil, false)
			return
		}
		for range count {
			record, ok := firstRecord(rest)
			if !yield(record, ok) || !ok {
				return
			}
			rest = rest[lengthBytes+len(record):]
		}
		if len(rest) > 0 {
			yield(nil, false)
		}
	}
}

// firstRecord answers the record that stands first in rest, if it is all there and none that is too long.
func firstRecord(rest []byte) ([]byte, bool) {
	if len(rest) < lengthBytes {
		return nil, false
	}
	n := readNumber(rest[:lengthBytes])
	if n > api.MaxRecord || n > uint64(len(rest)-lengthBytes) {
		return nil, false
	}
	return rest[lengthBytes : lengthBytes+int(n)], true
}

// seal answers, as a number, the bytes that stand behind a batch's length and body to tell that they are whole.
func seal(b []byte) uint64 {
	hash := digest.Keccak(b)
	return readNumber(hash[:sealBytes])
}

// putNumber answers b with so many bytes of n behind it, the least first.
func putNumber(b []byte, n uint64, many int) []byte {
	for i := range many {
		b = append(b, byte(n>>(8*i)))
	}
	return b
}

// readNumber answers the number of at most eight bytes, the least first.
func readNumber(b []byte) uint64 {
	n := uint64(0)
	for i, digit := range b {
		n |= uint64(digit) << (8 * i)
	}
	return n
}
