package rlp

import (
	"math/bits"
	"slices"

	"cairn/api"
)

// Encode answers the form of x: P4.1
func Encode(x api.Item) ([]byte, api.Errno) {
	n, e := Size(x)
	if e != api.OK {
		return nil, e
	}
	w := writer{form: make([]byte, n), at: n}
	w.item(x)
	return w.form, api.OK
}

// Size answers how many bytes the form of x has: P4.1
func Size(x api.Item) (int, api.Errno) { return measure(x, 0) }

// measure is Size of an item that stands within so many lists.
func measure(x api.Item, within int) (int, api.Errno) {
	if e := check(x, within); e != api.OK {
		return 0, e
	}
	if standsAlone(x.Bytes) {
		return 1, api.OK
	}
	payload := len(x.Bytes)
	for _, kid := range x.Kids {
		n, e := measure(kid, within+1)
		if e != api.OK {
			return 0, e
		}
		payload += n
	}
	return headSize(payload) + payload, api.OK
}

// check tells why an item that stands within so many lists may not be, whatever its kids are.
func check(x api.Item, within int) api.Errno {
	switch {
	case x.List == 1 && within >= api.MaxDeep:
		return api.ErrDeep
	case x.List == 0 && len(x.Kids) == 0, x.List == 1 && len(x.Bytes) == 0:
		return api.OK
	}
	return api.ErrItem
}

// headSize answers how many bytes stand ahead of a payload of n bytes.
func headSize(n int) int {
	if n <= shortMost {
		return 1
	}
	return 1 + (bits.Len(uint(n))+7)/8
}

// writer fills a form from its end on, so that a list's payload is there, and its length known, when its head is to be written.
type writer struct {
	form []byte
	at   int // what is written begins here
}

// item writes an item that may be.
func (w *writer) item(x api.Item) {
	end := w.at
	for _, kid := range slices.Backward(x.Kids) {
		w.item(kid)
	}
	w.at -= copy(w.form[w.at-len(x.Bytes):], x.Bytes)
	switch {
	case standsAlone(x.Bytes):
	case x.List == 0:
		w.head(textMark, end-w.at)
	default:
		w.head(listMark, end-w.at)
	}
}

// head writes what stands ahead of a payload of n bytes.
func (w *writer) head(mark byte, n int) {
	if n <= shortMost {
		w.put(mark + byte(n))
		return
	}
	mark += shortMost
	for ; n > 0; n >>= 8 {
		w.put(byte(n))
		mark++
	}
	w.put(mark)
}

func (w *writer) put(b byte) {
	w.at--
	w.form[w.at] = b
}
