package digest_test

import (
	"bytes"
	"crypto/sha256"
	"testing"

	"cairn/digest"
)

func sha(b []byte) []byte {
	h := digest.Sha(b)
	return h[:]
}

// P3.3: where the mark and the count have just room in a piece, have none, and where pieces end.
func TestShaKnown(t *testing.T) {
	wantKnown(t, "Sha", sha, []known{
		{0, "e3b0c44298fc1c149afbf4c8996fb92427ae41e4649b934ca495991b7852b855"},
		{55, "76efb0d97daee50afe8969e89775db6c0a2c7fc05f492a24c5f3eb51438e7c52"},
		{56, "a8b4537d6668da9dbcdd15762e3bac74deacdc0b8346e9f32d22135aa684ca26"},
		{63, "2c6748e8a8802ff0911ad60c1b422568642917427b68cc0ac4263bbb727612d9"},
		{64, "319c62f06cdd91d58f21907fb1fb688f935563c30cdd14eae8121d2955b44dcb"},
		{65, "1bfe56562447f72697e2f9f585fd16621f14197eeaa589d05a514d425f9a8ba0"},
		{119, "472f600fef529869b9f36335417ebb49090178872c30369a8411ae45be2537ca"},
	})
	wantHex(t, "Sha", sha([]byte("abcdbcdecdefdefgefghfghighijhijkijkljklmklmnlmnomnopnopq")), "248d6a61d20638b8e5c026930c3e6039a33ce45964ff2167f6ecedd419db06c1")
	wantHex(t, "Sha", sha(bytes.Repeat([]byte("a"), 1000000)), "cdc76e5c9914fb9281a1c7e284d73e67f1809a48a497200e046d39ccc7112cd0")
}

// P3.3: held against the library's.
func TestShaAsTheLibrary(t *testing.T) {
	for n := range 700 {
		if digest.Sha(text(n)) != sha256.Sum256(text(n)) {
			t.Fatalf("%d bytes", n)
		}
	}
	for _, n := range []int{1<<13 - 1, 1 << 13, 1<<13 + 1, 1<<21 - 9, 1 << 21} { // where the count of bits gets another byte
		if digest.Sha(text(n)) != sha256.Sum256(text(n)) {
			t.Errorf("%d bytes", n)
		}
	}
}
