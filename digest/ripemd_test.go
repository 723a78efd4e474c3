package digest_test

import (
	"bytes"
	"testing"

	"cairn/digest"
)

func ripemd(b []byte) []byte {
	h := digest.Ripemd(b)
	return h[:]
}

// P3.4: where the mark and the count have just room in a piece, have none, and where pieces end.
func TestRipemdKnown(t *testing.T) {
	wantKnown(t, "Ripemd", ripemd, []known{
		{0, "9c1185a5c5e9fc54612808977ee8f548b2258d31"},
		{55, "1e84a3f6364874785c7b4ac3389c7a6978a16806"},
		{56, "1e6f2a4c7436e4f1a04a1db8d42e5e7aa3be6dd6"},
		{63, "a2e07643d2e0a074be2c1154dfdfc8bf6635fa68"},
		{64, "79bf95612bc2f2a716ba248b4334cdcc83bc261d"},
		{65, "ecaf455885b1d4300b4ab6c5135316e89e556520"},
		{119, "db299d77f01f2b20f0b8a557fd7d6303c7e0c227"},
	})
	wantAll(t, "Ripemd", ripemd, "9126025c8fdd25ba17c56108a4fd584ac5bd359d3d5bf172c5e784ee89e37826")
}

// P3.4: what its makers tell of it.
func TestRipemdOfItsMakers(t *testing.T) {
	for _, x := range []struct{ in, hash string }{
		{"", "9c1185a5c5e9fc54612808977ee8f548b2258d31"},
		{"a", "0bdc9d2d256b3ee9daae347be6f4dc835a467ffe"},
		{"abc", "8eb208f7e05d987a9b044a8e98c6b087f15a0bfc"},
		{"message digest", "5d0689ef49d2fae572b881b123a85ffa21595f36"},
		{"abcdefghijklmnopqrstuvwxyz", "f71c27109c692c1b56bbdceb5b9d2865b3708dbc"},
		{"abcdbcdecdefdefgefghfghighijhijkijkljklmklmnlmnomnopnopq", "12a053384a9c0c88e405a06c27dcf49ada62eb2b"},
		{"ABCDEFGHIJKLMNOPQRSTUVWXYZabcdefghijklmnopqrstuvwxyz0123456789", "b0e20b6e3116640286ed3a87a5713079b21f5189"},
		{"12345678901234567890123456789012345678901234567890123456789012345678901234567890", "9b752e45573d4b39f4dbd3323cab82bf63326bfb"},
	} {
		wantHex(t, x.in, ripemd([]byte(x.in)), x.hash)
	}
	wantHex(t, "a million", ripemd(bytes.Repeat([]byte("a"), 1000000)), "52783243c1697bdbe16d37f97f68f08325dc1528")
}
