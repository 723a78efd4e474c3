package digest_test

import (
	"crypto/sha3"
	"math/bits"
	"testing"

	"cairn/digest"
)

// states calls f with states at the edges, with each state of one bit and with each of all bits but one, and with n of a source.
func states(n int, f func(a [25]uint64)) {
	var full [25]uint64
	for i := range full {
		full[i] = 1<<64 - 1
	}
	f([25]uint64{})
	f(full)
	for i := range 1600 {
		var one [25]uint64
		one[i/64] = 1 << (i % 64)
		f(one)
		but := full
		but[i/64] ^= 1 << (i % 64)
		f(but)
	}
	s := source{at: 1}
	for range n {
		f(s.state())
	}
}

// P3.1: Keccak-f[1600] of noughts, and of that again, as its makers tell it.
func TestPermuteKnown(t *testing.T) {
	once := digest.Permute([25]uint64{})
	if once != [25]uint64{
		0xf1258f7940e1dde7, 0x84d5ccf933c0478a, 0xd598261ea65aa9ee, 0xbd1547306f80494d, 0x8b284e056253d057,
		0xff97a42d7f8e6fd4, 0x90fee5a0a44647c4, 0x8c5bda0cd6192e76, 0xad30a6f71b19059c, 0x30935ab7d08ffc64,
		0xeb5aa93f2317d635, 0xa9a6e6260d712103, 0x81a57c16dbcf555f, 0x43b831cd0347c826, 0x01f22f1a11a5569f,
		0x05e5635a21d9ae61, 0x64befef28cc970f2, 0x613670957bc46611, 0xb87c5a554fd00ecb, 0x8c3ee88a1ccf32c8,
		0x940c7922ae3a2614, 0x1841f924a2c509e4, 0x16f53526e70465c2, 0x75f644e97f30a13b, 0xeaf1ff7b5ceca249,
	} {
		t.Errorf("%x", once)
	}
	if twice := digest.Permute(once); twice[0] != 0x2d5c954df96ecb3c || twice[24] != 0x20d06cd26a8fbf5c {
		t.Errorf("%x", twice)
	}
}

// P3.1
func TestPermuteByTheWords(t *testing.T) {
	states(2000, func(a [25]uint64) {
		if got, should := digest.Permute(a), modelPermute(a); got != should {
			t.Fatalf("%x: %x, not %x", a, got, should)
		}
	})
}

// P3.1: with another padding, the same permutation makes SHA3-256, which the library has.
func TestPermuteMakesSha3(t *testing.T) {
	for n := range 500 {
		if modelSponge(text(n), 6, digest.Permute) != sha3.Sum256(text(n)) {
			t.Fatalf("%d bytes", n)
		}
	}
}

// P3.7: what is permuted can be turned back, so that no two states have one answer.
func TestPermuteTurnedBack(t *testing.T) {
	states(2000, func(a [25]uint64) {
		if back := turnBack(digest.Permute(a)); back != a {
			t.Fatalf("%x comes back as %x", a, back)
		}
		if again := digest.Permute(turnBack(a)); again != a {
			t.Fatalf("%x is the answer to nothing: %x", a, again)
		}
	})
}

// P3.7
func TestPermuteUnlike(t *testing.T) {
	of := map[[25]uint64][25]uint64{}
	states(5000, func(a [25]uint64) {
		p := digest.Permute(a)
		if other, ok := of[p]; ok && other != a {
			t.Fatalf("%x and %x have one answer", a, other)
		}
		of[p] = a
	})
	if len(of) != 2+2*1600+5000 {
		t.Error(len(of))
	}
}

// turnBack takes the 24 rounds back, from the last.
func turnBack(lanes [25]uint64) [25]uint64 {
	turns, constants := modelTurns(), modelConstants()
	for i := range 24 {
		lanes[0] ^= constants[23-i]
		lanes = backChi(lanes)
		var a [25]uint64
		for x := range 5 {
			for y := range 5 {
				a[x+5*y] = bits.RotateLeft64(lanes[y+5*((2*x+3*y)%5)], -turns[x][y])
			}
		}
		lanes = backTheta(a)
	}
	return lanes
}

// backChi does chi three times: the fourth time it comes back to what there was.
func backChi(a [25]uint64) [25]uint64 {
	for range 3 {
		b := a
		for i := range a {
			x, row := i%5, i-i%5
			a[i] = b[i] ^ ^b[row+(x+1)%5]&b[row+(x+2)%5]
		}
	}
	return a
}

// backTheta finds the sums c that there were: theta does one and the same thing to them, which comes back to what there was the 192nd time.
func backTheta(a [25]uint64) [25]uint64 {
	var c [5]uint64
	for i, v := range a {
		c[i%5] ^= v
	}
	for range 191 {
		d := spread(c)
		for x := range c {
			c[x] ^= d[x]
		}
	}
	d := spread(c)
	for i := range a {
		a[i] ^= d[i%5]
	}
	return a
}

// spread is what theta adds to the columns whose sums are c.
func spread(c [5]uint64) [5]uint64 {
	var d [5]uint64
	for x := range d {
		d[x] = c[(x+4)%5] ^ bits.RotateLeft64(c[(x+1)%5], 1)
	}
	return d
}
