package store

import (
	"iter"

	"cairn/api"
	"cairn/digest"
)

// How many bytes the parts of the files have.
const (
	recordHead  = 2 // of a record, ahead of its key
	lengthBytes = 4 // ahead of a segment's record
	numberBytes = 8 // of a segment's number in a manifest
	sealBytes   = 8 // of the digest at the end
)

// value is what a put says of its key: the bytes that it has, or that it is gone.
type value struct {
	bytes []byte
	gone  bool
}

// isPut answers whether there may be such a put.
func isPut(key string, v value) bool {
	return len(key) >= 1 && len(key) <= api.MaxKey && len(v.bytes) <= api.MaxValue && !(v.gone && len(v.bytes) > 0)
}

func recordLength(key string, v value) int { return recordHead + len(key) + len(v.bytes) }

// putRecord answers b with the record of a put behind it.
func putRecord(b []byte, key string, v value) []byte {
	kind := byte(0)
	if v.gone {
		kind = 1
	}
	b = append(b, kind, byte(len(key)))
	b = append(b, key...)
	return append(b, v.bytes...)
}

// readRecord answers the put whose record b is, if it is one's. The value's bytes are a part of b.
func readRecord(b []byte) (string, value, bool) {
	if len(b) < recordHead || b[0] > 1 || int(b[1]) > len(b)-recordHead {
		return "", value{}, false
	}
	end := recordHead + int(b[1])
	key, v := string(b[recordHead:end]), value{bytes: b[end:], gone: b[0] == 1}
	return key, v, isPut(key, v)
}

// records tells what stands in b with its length ahead, as parts of it, each with true; and ends with false where a length doesn't come
// out.
func records(b []byte) iter.Seq2[[]byte, bool] {
	return func(yield func([]byte, bool) bool) {
		for rest := b; len(rest) > 0; {
			if len(rest) < lengthBytes || readNumber(rest[:lengthBytes]) > uint64(len(rest)-lengthBytes) {
				yield(nil, false)
				return
			}
			end := lengthBytes + int(readNumber(rest[:lengthBytes]))
			if !yield(rest[lengthBytes:end], true) {
				return
			}
			rest = rest[end:]
		}
	}
}

// sealed answers b with the bytes behind it that tell that it is whole.
func sealed(b []byte) []byte {
	hash := digest.Keccak(b)
	return append(b, hash[:sealBytes]...)
}

// unsealed answers b, as a part of it, without the bytes at its end that tell that it is whole, if they do.
func unsealed(b []byte) ([]byte, bool) {
	if len(b) < sealBytes {
		return nil, false
	}
	body := b[:len(b)-sealBytes]
	hash := digest.Keccak(body)
	return body, string(hash[:sealBytes]) == string(b[len(body):])
}

// putNumber answers b with so many bytes of n behind it, the least first.
func putNumber(b []byte, n uint64, many int) []byte {
	for i := range many {
		b = append(b, byte(n>>(8*i)))
	}
	return b
}

// readNumber answers the number of at most eight bytes, the least first.
func readNumber(b []byte) uint64 {
	n := uint64(0)
	for i, digit := range b {
		n |= uint64(digit) << (8 * i)
	}
	return n
}
