package rlp

import "cairn/api"

// Envelope answers the payload with its kind ahead: P4.7
func Envelope(kind byte, payload []byte) ([]byte, api.Errno) {
	if kind >= textMark {
		return nil, api.ErrKind
	}
	return append([]byte{kind}, payload...), api.OK
}

// Open answers the kind of an envelope, and what is in it: P4.7
func Open(b []byte) (byte, []byte, api.Errno) {
	switch {
	case len(b) == 0:
		return 0, nil, api.ErrShort
	case b[0] < textMark:
		return b[0], copyBytes(b[1:]), api.OK
	case b[0] >= listMark:
		return 0, copyBytes(b), api.OK
	}
	return 0, nil, api.ErrKind
}
