package pre_test

import (
	"bytes"
	"testing"

	"cairn/api"
	"cairn/pre"
)

// P16.3: the contracts 2, 3 and 4, with inputs of all lengths at which something turns.
func TestDigests(t *testing.T) {
	s := source{at: 3}
	for _, long := range []int{0, 1, 20, 31, 32, 33, 55, 56, 63, 64, 65, 119, 120, 128, 1000, 100000} {
		for n := 2; n <= 4; n++ {
			wantModel(t, "any", n, s.octets(long))
			wantModel(t, "noughts", n, noughts(long))
		}
	}
}

// P16.3: digests known elsewhere.
func TestKnownDigests(t *testing.T) {
	for _, c := range []struct{ input, sha, ripemd string }{
		{"", "e3b0c44298fc1c149afbf4c8996fb92427ae41e4649b934ca495991b7852b855", "9c1185a5c5e9fc54612808977ee8f548b2258d31"},
		{"abc", "ba7816bf8f01cfea414140de5dae2223b00361a396177a9cb410ff61f20015ad", "8eb208f7e05d987a9b044a8e98c6b087f15a0bfc"},
	} {
		wantRun(t, "known", 2, []byte(c.input), octets(c.sha), api.OK)
		wantRun(t, "known", 3, []byte(c.input), join(noughts(12), octets(c.ripemd)), api.OK)
	}
}

// P16.3: inputs of MaxMemory bytes.
func TestLongDigests(t *testing.T) {
	t.Parallel()
	s := source{at: 4}
	long := s.octets(mostMemory)
	for n := 2; n <= 4; n++ {
		should, _ := modelRun(n, long)
		if out, e := pre.Run(n, long); e != api.OK || !bytes.Equal(out, should) {
			t.Errorf("%d: %d bytes, %d", n, len(out), e)
		}
	}
}

// state is BLAKE2b's h ahead of its first piece, for digests of 64 bytes.
func state() []byte {
	return octets("48c9bdf267e6096a3ba7ca8485ae67bb2bf894fe72f36e3cf1361d5f3af54fa5d182e6ad7f520e511f6c3e2b8c68059b6bbd41fbabd9831f79217e1319cde05b")
}

// piece is an input of the contract 9: rounds, h, m, t, and whether it is the last one.
func piece(rounds byte, m string, last byte) []byte {
	return join([]byte{0, 0, 0, rounds}, state(), padded([]byte(m), 128), padded([]byte{byte(len(m))}, 16), []byte{last})
}

// P16.3: what is known elsewhere of BLAKE2b (EIP-152).
func TestKnownBlake(t *testing.T) {
	for _, c := range []struct {
		rounds, last byte
		should       string
	}{
		{0, 1, "08c9bcf367e6096a3ba7ca8485ae67bb2bf894fe72f36e3cf1361d5f3af54fa5d282e6ad7f520e511f6c3e2b8c68059b9442be0454267ce079217e1319cde05b"},
		{12, 1, "ba80a53f981c4d0d6a2797b69f12f6e94c212f14685ac4b74b12bb6fdbffa2d17d87c5392aab792dc252d5de4533cc9518d38aa8dbf1925ab92386edd4009923"},
		{12, 0, "75ab69d3190a562c51aef8d88f1c2775876944407270c42c9844252c26d2875298743e7f6d5ea2f2d3e8d226039cd31b4e426ac4f2d3d666a610c2116fde4735"},
		{1, 1, "b63a380cb2897d521994a85234ee2c181b5f844d2c624c002677e9703449d2fba551b3a8333bcdf5f2f7e08993d53923de3d64fcc68c034e717b9293fed7a421"},
	} {
		wantRun(t, "known", 9, piece(c.rounds, "abc", c.last), octets(c.should), api.OK)
	}
}

// P16.3: 212, 213 and 214 bytes, and every last byte.
func TestBlakeFails(t *testing.T) {
	right := piece(12, "abc", 1)
	for last := 2; last < 256; last++ {
		wantRun(t, "a last byte that may not be", 9, piece(12, "abc", byte(last)), nil, api.ErrFails)
	}
	twice := join(right, right, right)
	for long := range len(twice) {
		if long != 213 {
			wantRun(t, "another length", 9, twice[:long], nil, api.ErrFails)
		}
	}
	wantRun(t, "a byte less", 9, right[1:], nil, api.ErrFails)
	wantRun(t, "a nought more", 9, append(right, 0), nil, api.ErrFails)
}

// P16.3: each byte of an input is taken from its own place.
func TestBlakeEachByte(t *testing.T) {
	s := source{at: 5}
	input := join([]byte{0, 0, 0, 3}, s.octets(208), []byte{1})
	for i := range input {
		for _, with := range []byte{1, 0x80} {
			if i < 2 {
				// So many rounds take long.
				continue
			}
			input[i] ^= with
			wantModel(t, "a bit changed", 9, input)
			input[i] ^= with
		}
	}
	for range 200 {
		wantModel(t, "any", 9, join([]byte{0, 0, byte(s.below(3)), byte(s.next())}, s.octets(208), []byte{byte(s.below(3))}))
	}
}

// P16.3, P16.2: a round more than the first two bytes of rounds can tell.
func TestBlakeRounds(t *testing.T) {
	for _, rounds := range [][]byte{{0, 0, 0, 0}, {0, 0, 1, 0}, {0, 1, 0, 1}} {
		wantModel(t, "rounds", 9, join(rounds, piece(0, "abc", 1)[4:]))
	}
}
