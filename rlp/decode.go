package rlp

import (
	"iter"

	"cairn/api"
)

// Head answers the piece that stands first in b: P4.2
func Head(b []byte) (api.Piece, api.Errno) {
	if len(b) == 0 {
		return api.Piece{}, api.ErrShort
	}
	p, mark := api.Piece{}, byte(textMark)
	switch {
	case b[0] < textMark:
		return api.Piece{To: 1}, api.OK
	case b[0] >= listMark:
		p.List, mark = 1, listMark
	}
	from, n, e := readLength(b, mark)
	if e != api.OK {
		return api.Piece{}, e
	}
	if n > uint64(len(b)-from) {
		return api.Piece{}, api.ErrShort
	}
	p.From, p.To = from, from+int(n)
	if p.List == 0 && standsAlone(b[p.From:p.To]) {
		return api.Piece{}, api.ErrForm
	}
	return p, api.OK
}

// readLength answers where the payload of the piece that stands first in b begins, and how many bytes it has, if they are there.
func readLength(b []byte, mark byte) (int, uint64, api.Errno) {
	n := uint64(b[0] - mark)
	if n <= shortMost {
		return 1, n, api.OK
	}
	from := 1 + int(n-shortMost)
	if from > len(b) {
		return 0, 0, api.ErrShort
	}
	n = 0
digits:
	for _, digit := range b[1:from] {
		n = n<<8 | uint64(digit)
		switch {
		case n == 0: // a leading nought: whatever follows, fewer bytes would do
			break digits
		case n > longMost: // what follows could but wrap it round
			break digits
		}
	}
	if n <= shortMost || n > longMost {
		return 0, 0, api.ErrForm
	}
	return from, n, api.OK
}

// Each goes over the pieces that stand one behind the other in b: P4.4. They are those of the call, so that whoever ranges may work
// on b meanwhile.
func Each(b []byte) iter.Seq2[int, api.Piece] {
	b = copyBytes(b)
	return func(yield func(int, api.Piece) bool) {
		n := 0
		for p, e := range pieces(b) {
			if e != api.OK || !yield(n, p) {
				return
			}
			n++
		}
	}
}

// pieces goes over the pieces that fill b, and ends with the error of the first one that is none.
func pieces(b []byte) iter.Seq2[api.Piece, api.Errno] {
	return func(yield func(api.Piece, api.Errno) bool) {
		for at := 0; at < len(b); {
			p, e := Head(b[at:])
			if e != api.OK {
				yield(api.Piece{}, e)
				return
			}
			p.From += at
			p.To += at
			if !yield(p, api.OK) {
				return
			}
			at = p.To
		}
	}
}

// Decode answers the item whose form b is: P4.3
func Decode(b []byte) (api.Item, api.Errno) {
	p, e := Head(b)
	if e != api.OK {
		return api.Item{}, e
	}
	x, e := read(b, p, 0)
	if e != api.OK {
		return api.Item{}, e
	}
	if p.To < len(b) {
		return api.Item{}, api.ErrRest
	}
	return x, api.OK
}

// read answers the item of a piece of b that stands within so many lists.
func read(b []byte, p api.Piece, within int) (api.Item, api.Errno) {
	payload := b[p.From:p.To]
	if p.List == 0 {
		return Text(payload), api.OK
	}
	if within >= api.MaxDeep {
		return api.Item{}, api.ErrDeep
	}
	var kids []api.Item
	for piece, e := range pieces(payload) {
		if e != api.OK {
			return api.Item{}, e
		}
		kid, e := read(payload, piece, within+1)
		if e != api.OK {
			return api.Item{}, e
		}
		kids = append(kids, kid)
	}
	return list(kids...), api.OK
}
