package kzg_test

import (
	"bytes"
	"testing"

	"cairn/api"
	"cairn/kzg"
)

// wantHash holds Hash's answer against SHA-256 with the first byte 1.
func wantHash(t *testing.T, commitment []byte) {
	t.Helper()
	if h, e := kzg.Hash(commitment); h != api.Hash(blob(commitment)) || e != api.OK {
		t.Fatalf("Hash(%x): %x, %d", commitment, h, e)
	}
}

// P9.2: the hash of any 48 bytes, whether they are a point's or not.
func TestHash(t *testing.T) {
	wantHash(t, make([]byte, 48))
	wantHash(t, bytes.Repeat([]byte{0xff}, 48))
	for _, p := range []point{infinity(), base(), neg(base()), kzg.Power()} {
		wantHash(t, short(p))
	}
	for _, x := range badShorts() {
		wantHash(t, x.b)
	}
	f := source{at: 1}
	for range 300 {
		wantHash(t, f.octets(48))
	}
}

// P9.2: each byte makes another hash, and the first one is 1 whatever it is of.
func TestHashOfEachByte(t *testing.T) {
	b := short(base())
	was, _ := kzg.Hash(b)
	seen := map[api.Hash]bool{was: true}
	for i := range b {
		for bit := range 8 {
			b[i] ^= 1 << bit
			h, e := kzg.Hash(b)
			if e != api.OK || h[0] != 1 || seen[h] {
				t.Fatalf("%x: %x, %d", b, h, e)
			}
			seen[h] = true
			b[i] ^= 1 << bit
		}
	}
}

// P9.2: hashes that other programs know.
func TestKnownHashes(t *testing.T) {
	for commitment, should := range map[string]string{
		"c00000000000000000000000000000000000000000000000000000000000000000000000000000000000000000000000": "010657f37554c781402a22917dee2f75def7ab966d7b770905398eba3c444014",
		"8f59a8d2a1a625a17f3fea0fe5eb8c896db3764f3185481bc22f91b4aaffcca25f26936857bc3a7c2539ea8ec3a952b7": "01e798154708fe7789429634053cbf9f99b619f9f084048927333fce637f549b",
	} {
		if h, e := kzg.Hash(octets(commitment)); !bytes.Equal(h[:], octets(should)) || e != api.OK {
			t.Errorf("%s: %x, %d", commitment, h, e)
		}
	}
}

// P9.2: too short and too long ones.
func TestHashRefuses(t *testing.T) {
	refused := [][]byte{nil, {}, make([]byte, 0, 48), make([]byte, 47, 48), make([]byte, 1<<20)}
	for n := range 300 {
		if n != 48 {
			refused = append(refused, make([]byte, n), bytes.Repeat(short(base()), 7)[:n])
		}
	}
	for _, b := range refused {
		if h, e := kzg.Hash(b); h != (api.Hash{}) || e != api.ErrLong {
			t.Fatalf("%d bytes: %x, %d", len(b), h, e)
		}
	}
}
