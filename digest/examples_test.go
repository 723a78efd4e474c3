package digest_test

import "testing"

// The chapter's first example.
func TestExampleKeccak(t *testing.T) {
	wantHex(t, "nothing", keccak([]byte("")), "c5d2460186f7233c927e7db2dcc703c0e500b653ca82273b7bfad8045d85a470")
	wantHex(t, "abc", keccak([]byte("abc")), "4e03657aea45a94fc7d47ba826c8d667c0d1e6e33a64a036ec44f58fa12d6c45")
}

// The chapter's second example.
func TestExampleShaAndRipemd(t *testing.T) {
	wantHex(t, "Sha", sha([]byte("abc")), "ba7816bf8f01cfea414140de5dae2223b00361a396177a9cb410ff61f20015ad")
	wantHex(t, "Ripemd", ripemd([]byte("abc")), "8eb208f7e05d987a9b044a8e98c6b087f15a0bfc")
}
