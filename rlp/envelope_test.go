package rlp_test

import (
	"bytes"
	"testing"

	"cairn/api"
	"cairn/rlp"
)

// P4.7: kinds up to 127, with any payload.
func TestEnvelope(t *testing.T) {
	for kind := range 256 {
		for _, n := range []int{0, 1, 2, 55, 256, 65536} {
			b, e := rlp.Envelope(byte(kind), run(n))
			if kind > 127 {
				if e != api.ErrKind || b != nil {
					t.Errorf("kind %d, %d bytes: %s, %d", kind, n, clip(b), e)
				}
				continue
			}
			if e != api.OK || !bytes.Equal(b, join([]byte{byte(kind)}, run(n))) {
				t.Errorf("kind %d, %d bytes: %s, %d", kind, n, clip(b), e)
			}
			back, payload, e := rlp.Open(b)
			if e != api.OK || int(back) != kind || !bytes.Equal(payload, run(n)) {
				t.Errorf("kind %d, %d bytes: Open: %d, %s, %d", kind, n, back, clip(payload), e)
			}
		}
	}
}

// P4.7: whatever stands behind the first byte.
func TestOpen(t *testing.T) {
	if kind, b, e := rlp.Open(nil); kind != 0 || b != nil || e != api.ErrShort {
		t.Errorf("nothing: %d, %x, %d", kind, b, e)
	}
	for first := range 256 {
		for _, n := range []int{0, 1, 70} {
			b := join([]byte{byte(first)}, run(n))
			kind, payload, e := rlp.Open(b)
			switch {
			case first < 128:
				if e != api.OK || int(kind) != first || !bytes.Equal(payload, run(n)) {
					t.Errorf("%d: %d, %x, %d", first, kind, payload, e)
				}
			case first < 192:
				if e != api.ErrKind || kind != 0 || payload != nil {
					t.Errorf("%d: %d, %x, %d", first, kind, payload, e)
				}
			default:
				if e != api.OK || kind != 0 || !bytes.Equal(payload, b) {
					t.Errorf("%d: %d, %x, %d", first, kind, payload, e)
				}
			}
		}
	}
}
