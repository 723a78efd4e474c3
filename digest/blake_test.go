package digest_test

import (
	"encoding/binary"
	"testing"

	"cairn/digest"
)

// abcState is BLAKE2b's state ahead of a text, for an answer of 64 bytes and no key.
var abcState = [8]uint64{0x6a09e667f2bdc948, 0xbb67ae8584caa73b, 0x3c6ef372fe94f82b, 0xa54ff53a5f1d36f1, 0x510e527fade682d1, 0x9b05688c2b3e6c1f, 0x1f83d9abfb41bd6b, 0x5be0cd19137e2179}

func bytesOf(h [8]uint64) []byte {
	var b []byte
	for _, x := range h {
		b = binary.LittleEndian.AppendUint64(b, x)
	}
	return b
}

// P3.5: what the contract at the address 9 is known by.
func TestBlakeOfEthereum(t *testing.T) {
	for _, x := range []struct {
		rounds uint32
		last   bool
		hash   string
	}{
		{0, true, "08c9bcf367e6096a3ba7ca8485ae67bb2bf894fe72f36e3cf1361d5f3af54fa5d282e6ad7f520e511f6c3e2b8c68059b9442be0454267ce079217e1319cde05b"},
		{12, true, "ba80a53f981c4d0d6a2797b69f12f6e94c212f14685ac4b74b12bb6fdbffa2d17d87c5392aab792dc252d5de4533cc9518d38aa8dbf1925ab92386edd4009923"},
		{12, false, "75ab69d3190a562c51aef8d88f1c2775876944407270c42c9844252c26d2875298743e7f6d5ea2f2d3e8d226039cd31b4e426ac4f2d3d666a610c2116fde4735"},
		{1, true, "b63a380cb2897d521994a85234ee2c181b5f844d2c624c002677e9703449d2fba551b3a8333bcdf5f2f7e08993d53923de3d64fcc68c034e717b9293fed7a421"},
	} {
		h := digest.Blake(x.rounds, abcState, [16]uint64{0x636261}, [2]uint64{3}, x.last)
		wantHex(t, "Blake", bytesOf(h), x.hash)
	}
}

// numbers are a state, a message and a count in which no two words are alike.
func numbers() (h [8]uint64, m [16]uint64, t [2]uint64) {
	for i := range h {
		h[i] = 0x0123456789abcdef * uint64(i+1)
	}
	for i := range m {
		m[i] = 0xfedcba9876543210 * uint64(2*i+1)
	}
	return h, m, [2]uint64{0x1122334455667788, 0x99aabbccddeeff00}
}

// P3.5: no round, one, all rows of sigma, the first row again, and the second; last and not.
func TestBlakeKnown(t *testing.T) {
	h, m, count := numbers()
	for _, x := range []struct {
		rounds         uint32
		isLast, notYet [8]uint64
	}{
		{
			0,
			[8]uint64{0x6a09e667f3bcc908, 0xbb67ae8584caa73b, 0x3c6ef372fe94f82b, 0xa54ff53a5f1d36f1, 0x402c613bf880f559, 0x02afd340f6d0931f, 0xe07c265404be4294, 0x5be0cd19137e2179},
			[8]uint64{0x6a09e667f3bcc908, 0xbb67ae8584caa73b, 0x3c6ef372fe94f82b, 0xa54ff53a5f1d36f1, 0x402c613bf880f559, 0x02afd340f6d0931f, 0x1f83d9abfb41bd6b, 0x5be0cd19137e2179},
		},
		{
			1,
			[8]uint64{0x8e426ff19fbfda7b, 0xbb4363bba0fcf66b, 0x3e6b8767bb711059, 0x5c46454a5cc360cf, 0xe83b1f2c984ff52f, 0xaf3c50f5178188f5, 0x9319920e71b91015, 0x7711ff6e6dba0e51},
			[8]uint64{0x7c65ac5441566434, 0x20154eb57ae23f6a, 0xceace8d950e0b162, 0x11ddb9d80f055818, 0x18b0991fa766fe94, 0xa16f7a1feedf8453, 0x8841ba3b13b39623, 0x737e41ae9ea6aaa5},
		},
		{
			10,
			[8]uint64{0xd8ff3008d684fb34, 0xa1994d40c4f6ee9d, 0x895235dd96010b95, 0x6e506d93d8adbe4f, 0x720897f4c5b5527b, 0x4106aa86302990c8, 0x4a8bde6ab4d9daa5, 0x8a5c0209e72670b1},
			[8]uint64{0x7c59d03c5da357cc, 0x0443d5c6768b7bd3, 0x094a8cac51d447fb, 0x2e54bb203b900ea2, 0x56cd59fcfaf2a114, 0x0c0a9ae8bf81bec2, 0xf1fae35e1d58dc39, 0x2c83301336753d44},
		},
		{
			11,
			[8]uint64{0x92f3781c5fd51a20, 0x935fb6d491ab07fc, 0x3fa6a03eecf18648, 0x0230f2d3b0afb911, 0x7fd1ef5cbb7ec662, 0x14b3a4e98b60d232, 0x33ad5d5244745e06, 0x00b4e972cdb2b526},
			[8]uint64{0x61ba6ebc49f3aa60, 0x30ec3023e60d2a59, 0xec85bae19863eb1e, 0x76eb97a2d1be5135, 0xbe8a1d36ed16581d, 0x0183a53a84126904, 0x046c26075a6ec943, 0x522a6cf5a03a2234},
		},
		{
			12,
			[8]uint64{0x38377b2440f9b82f, 0xd3c21a57e5affb61, 0x5bc9432226aa9376, 0x6ecfd675d7e54b7e, 0x8661aca435650a7f, 0xaf221a00f14c07d1, 0x99c5bee63a0e0882, 0x11a8258639150fb3},
			[8]uint64{0xb6af9662c9a2839a, 0x2212b621624cf7fa, 0x691ff78891bb0e0b, 0x8ebe269a4a55d8fb, 0xf5ea4c7a81332fb3, 0x46536c7dad238792, 0xb4dc00553f7f1f86, 0x539a055ddfad2fed},
		},
	} {
		if got := digest.Blake(x.rounds, h, m, count, true); got != x.isLast {
			t.Errorf("%d rounds, last: %x", x.rounds, got)
		}
		if got := digest.Blake(x.rounds, h, m, count, false); got != x.notYet {
			t.Errorf("%d rounds, not last: %x", x.rounds, got)
		}
	}
}

// P3.5
func TestBlakeByTheWords(t *testing.T) {
	s := source{at: 3}
	for i := range 2000 {
		a := s.state()
		h, m, count := [8]uint64(a[:8]), [16]uint64(a[8:24]), [2]uint64{a[24], s.next()}
		rounds, last := i%41, i%3 == 0
		if got, should := digest.Blake(uint32(rounds), h, m, count, last), modelBlake(rounds, h, m, count, last); got != should {
			t.Fatalf("Blake(%d, %x, %x, %x, %v): %x, not %x", rounds, h, m, count, last, got, should)
		}
	}
	h, m, count := numbers()
	if digest.Blake(100003, h, m, count, true) != modelBlake(100003, h, m, count, true) {
		t.Error("100003 rounds")
	}
}

// blake2b is BLAKE2b with an answer of 64 bytes, whose compression is Blake in 12 rounds.
func blake2b(b []byte) []byte {
	h := abcState
	long := uint64(len(b))
	for at := uint64(0); ; at += 128 {
		var piece [128]byte
		copy(piece[:], b[at:])
		var m [16]uint64
		for i := range m {
			m[i] = binary.LittleEndian.Uint64(piece[8*i:])
		}
		if at+128 >= long {
			return bytesOf(digest.Blake(12, h, m, [2]uint64{long}, true))
		}
		h = digest.Blake(12, h, m, [2]uint64{at + 128}, false)
	}
}

// P3.5: what it is the compression of.
func TestBlakeMakesBlake2b(t *testing.T) {
	wantAll(t, "BLAKE2b", blake2b, "b9e404ae8eaea9b06cea2b8e82aed9a7e91b3e7dd7d33921ad8982e89cd897e2")
}
