package rlp_test

import (
	"bytes"

	"cairn/api"
)

// The chapter's words, taken as they stand, however slow.

// alike: P4.8
func alike(x, y api.Item) bool {
	if x.List != y.List || string(x.Bytes) != string(y.Bytes) || len(x.Kids) != len(y.Kids) {
		return false
	}
	for i := range x.Kids {
		if !alike(x.Kids[i], y.Kids[i]) {
			return false
		}
	}
	return true
}

// fewest is a number as as few bytes as can be, the highest first.
func fewest(n int) []byte {
	if n == 0 {
		return nil
	}
	return append(fewest(n/256), byte(n%256))
}

// form is the form of an item that may be: section 4.1
func form(x api.Item) []byte {
	first, payload := 128, x.Bytes
	if x.List == 1 {
		var forms [][]byte
		for _, kid := range x.Kids {
			forms = append(forms, form(kid))
		}
		first, payload = 192, bytes.Join(forms, nil)
	} else if len(payload) == 1 && payload[0] < 128 {
		return payload
	}
	if len(payload) <= 55 {
		return join([]byte{byte(first + len(payload))}, payload)
	}
	n := fewest(len(payload))
	return join([]byte{byte(first + 55 + len(n))}, n, payload)
}

// whyNot is the error of an item within so many lists: P4.1
func whyNot(x api.Item, within int) api.Errno {
	if x.List == 1 && within+1 > 64 {
		return api.ErrDeep
	}
	if x.List != 0 && x.List != 1 || x.List == 0 && len(x.Kids) != 0 || x.List == 1 && len(x.Bytes) != 0 {
		return api.ErrItem
	}
	for _, kid := range x.Kids {
		if e := whyNot(kid, within+1); e != api.OK {
			return e
		}
	}
	return api.OK
}

// reader goes through bytes from the front.
type reader struct {
	b  []byte
	at int
}

// head is P4.2 of what stands where the reader is, in bytes that end at end.
func (r *reader) head(end int) (list, from, to int, e api.Errno) {
	if r.at >= end {
		return 0, 0, 0, api.ErrShort
	}
	first := int(r.b[r.at])
	if first < 128 {
		return 0, r.at, r.at + 1, api.OK
	}
	if first >= 192 {
		list = 1
	}
	many, own := first-128-64*list, 0
	if many > 55 {
		own = many - 55
		if r.at+1+own > end {
			return 0, 0, 0, api.ErrShort
		}
		digits := r.b[r.at+1 : r.at+1+own]
		if digits[0] == 0 {
			return 0, 0, 0, api.ErrForm
		}
		if own > 6 { // at least 2^48
			return 0, 0, 0, api.ErrForm
		}
		many = 0
		for _, d := range digits {
			many = many*256 + int(d)
		}
		if many < 56 || many > 1<<40 {
			return 0, 0, 0, api.ErrForm
		}
	}
	from = r.at + 1 + own
	if from+many > end {
		return 0, 0, 0, api.ErrShort
	}
	if first == 129 && r.b[from] < 128 {
		return 0, 0, 0, api.ErrForm
	}
	return list, from, from + many, api.OK
}

// item is P4.3 of what stands where the reader is.
func (r *reader) item(end, within int) (api.Item, api.Errno) {
	list, from, to, e := r.head(end)
	if e != api.OK {
		return api.Item{}, e
	}
	if list == 0 {
		r.at = to
		return api.Item{Bytes: r.b[from:to]}, api.OK
	}
	if within == 64 {
		return api.Item{}, api.ErrDeep
	}
	x := group()
	for r.at = from; r.at < to; {
		kid, e := r.item(to, within+1)
		if e != api.OK {
			return api.Item{}, e
		}
		x.Kids = append(x.Kids, kid)
	}
	return x, api.OK
}

// decoded is P4.3
func decoded(b []byte) (api.Item, api.Errno) {
	r := reader{b: b}
	x, e := r.item(len(b), 0)
	if e == api.OK && r.at < len(b) {
		return api.Item{}, api.ErrRest
	}
	return x, e
}
