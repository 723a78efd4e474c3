package call_test

import (
	"bytes"
	"encoding/hex"
	"fmt"
	"math"
	"slices"
	"testing"

	"cairn/api"
	"cairn/call"
	"cairn/digest"
)

func unhex(t *testing.T, text string) []byte {
	t.Helper()
	b, e := hex.DecodeString(text)
	if e != nil {
		t.Fatal(e)
	}
	return b
}

func addressOf(t *testing.T, text string) api.Address {
	t.Helper()
	return api.Address(unhex(t, text))
}

func wantAddress(t *testing.T, what string, got, want api.Address) {
	t.Helper()
	if got != want {
		t.Errorf("%s: got %x, want %x", what, got, want)
	}
}

// P17.1: what is known of one account's first creations.
func TestMadeKnown(t *testing.T) {
	from := addressOf(t, "6ac7ea33f8831ea9dcc53393aaa88b25a785dbf0")
	for nonce, want := range []string{
		"cd234a471b72ba2f1ccf0a70fcaba648a5eecd8d", "343c43a37d37dff08ae8c4a11544c718abb4fcf8",
		"f778b86fa74e846c4f0a1fbd1335fe81c00a0c91", "fffd933a0bc612844eaf0c6fe3e5b8e9b6c1d19c",
	} {
		wantAddress(t, fmt.Sprintf("nonce %d", nonce), call.Made(from, uint64(nonce)), addressOf(t, want))
	}
}

// P17.1: the list's bytes are written by hand here, for nonces of all lengths.
func TestMadeByHand(t *testing.T) {
	from := api.Address{0: 0x80, 7: 0x11, 19: 0xff}
	for nonce, number := range map[uint64]string{
		0: "80", 1: "01", 0x7f: "7f", 0x80: "8180", 0xff: "81ff", 0x100: "820100", 0xffff: "82ffff", 0x10000: "83010000", 1<<32 - 1: "84ffffffff",
		1 << 32: "850100000000", 1<<48 + 2: "8701000000000002", 1<<56 - 1: "87ffffffffffffff", math.MaxUint64: "88ffffffffffffffff",
	} {
		body := slices.Concat([]byte{0x94}, from[:], unhex(t, number))
		h := digest.Keccak(append([]byte{0xc0 + byte(len(body))}, body...))
		wantAddress(t, fmt.Sprintf("nonce %d", nonce), call.Made(from, nonce), api.Address(h[12:]))
	}
}

// P17.1: what is known of salts and init codes.
func TestMade2Known(t *testing.T) {
	for i, x := range []struct{ from, salt, init, want string }{
		{"", "", "00", "4d1a2e2bb4f88f0250f26ffff098b0b30b26bf38"},
		{"deadbeef00000000000000000000000000000000", "", "00", "b928f69bb1d91cd65274e3c79d8986362984fda3"},
		{
			"deadbeef00000000000000000000000000000000", "000000000000000000000000feed000000000000000000000000000000000000", "00",
			"d04116cdd17bebe565eb2422f2497e06cc1c9833",
		},
		{"", "", "deadbeef", "70f2b2914a2a4b783faefb75f459a580616fcb5e"},
		{"deadbeef", "cafebabe", "deadbeef", "60f3f640a8508fc6a86d45df051962668e1e8ac7"},
		{"deadbeef", "cafebabe", string(bytes.Repeat([]byte("deadbeef"), 11)), "1d8bfdc5d46dc4f61d6b6115972536ebe6a8854c"},
		{"", "", "", "e33c0c7f7df4809055c3eba6c09cfe4baf1bd9e0"},
	} {
		var from api.Address
		b := unhex(t, x.from)
		copy(from[20-len(b):], b)
		got := call.Made2(from, wordOf(unhex(t, x.salt)), unhex(t, x.init))
		wantAddress(t, fmt.Sprintf("case %d", i), got, addressOf(t, x.want))
	}
}

// P17.1: each part counts, and the salt's highest byte stands ahead.
func TestMade2ByHand(t *testing.T) {
	from, init := api.Address{0: 1, 19: 2}, bytes.Repeat([]byte{0x5b, 0x01}, 300)
	salt := api.Word{0x0102030405060708, 0x1112131415161718, 0x2122232425262728, 0x3132333435363738}
	bytesOfSalt := unhex(t, "3132333435363738212223242526272811121314151617180102030405060708")
	code := digest.Keccak(init)
	h := digest.Keccak(slices.Concat([]byte{0xff}, from[:], bytesOfSalt, code[:]))
	wantAddress(t, "all of it", call.Made2(from, salt, init), api.Address(h[12:]))
	for what, other := range map[string]api.Address{
		"another account": call.Made2(api.Address{0: 1, 19: 3}, salt, init), "another salt": call.Made2(from, w(1), init),
		"another code": call.Made2(from, salt, init[1:]),
	} {
		wantTrue(t, what, other != api.Address(h[12:]))
	}
}

// P17.1: there are contracts at 1 to 10, and at no address that differs in any byte.
func TestPre(t *testing.T) {
	for n := range 256 {
		if got, want := call.Pre(api.Address{19: byte(n)}), n >= 1 && n <= 10; got != want {
			t.Errorf("Pre of %d: %v", n, got)
		}
	}
	for i := range 19 {
		a := api.Address{19: 4}
		a[i] = 1
		wantTrue(t, fmt.Sprintf("none, by byte %d", i), !call.Pre(a))
	}
}
