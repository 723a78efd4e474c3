package word_test

import (
	"bytes"
	"math/big"
	"testing"

	"cairn/api"
	"cairn/word"
)

// P2.8
func TestBytes(t *testing.T) {
	if b := word.Bytes(api.Word{0x0807060504030201, 0x100f0e0d0c0b0a09, 0x1817161514131211, 0x201f1e1d1c1b1a19}); !bytes.Equal(b[:], upTo(32)) {
		t.Errorf("%x", b)
	}
	words(5000, func(x api.Word) {
		b := word.Bytes(x)
		if !bytes.Equal(b[:], number(x).FillBytes(make([]byte, 32))) {
			t.Fatalf("Bytes(%x): %x", x, b)
		}
	})
}

// upTo is the bytes n, n - 1 .. 1.
func upTo(n int) []byte {
	b := make([]byte, n)
	for i := range b {
		b[i] = byte(n - i)
	}
	return b
}

// P2.8
func TestRead(t *testing.T) {
	for n := range 33 {
		b := upTo(n)
		x, e := word.Read(b)
		wantWord(t, "Read", b, x, e, of(new(big.Int).SetBytes(b)), api.OK)
	}
	x, e := word.Read(nil)
	wantWord(t, "Read", "", x, e, api.Word{}, api.OK)
	x, e = word.Read([]byte{})
	wantWord(t, "Read", "", x, e, api.Word{}, api.OK)
	x, e = word.Read([]byte{0, 0, 1, 2})
	wantWord(t, "Read", "", x, e, api.Word{258}, api.OK)
	x, e = word.Read(bytes.Repeat([]byte{255}, 32))
	wantWord(t, "Read", "32", x, e, top, api.OK)
	for _, n := range []int{33, 34, 64, 1000} {
		x, e = word.Read(make([]byte, n))
		wantWord(t, "Read", n, x, e, api.Word{}, api.ErrLong)
		x, e = word.Read(bytes.Repeat([]byte{7}, n))
		wantWord(t, "Read", n, x, e, api.Word{}, api.ErrLong)
	}
	s := source{at: 11}
	for range 2000 {
		b := make([]byte, s.next()%33)
		for i := range b {
			b[i] = byte(s.limb())
		}
		x, e := word.Read(b)
		wantWord(t, "Read", b, x, e, of(new(big.Int).SetBytes(b)), api.OK)
	}
}

// P2.8
func TestLeast(t *testing.T) {
	if b := word.Least(api.Word{}); len(b) != 0 {
		t.Errorf("%x", b)
	}
	if b := word.Least(api.Word{258}); !bytes.Equal(b, []byte{1, 2}) {
		t.Errorf("%x", b)
	}
	if b := word.Least(api.Word{0, 1}); !bytes.Equal(b, []byte{1, 0, 0, 0, 0, 0, 0, 0, 0}) {
		t.Errorf("%x", b)
	}
	words(5000, func(x api.Word) {
		if b := word.Least(x); !bytes.Equal(b, number(x).Bytes()) {
			t.Fatalf("Least(%x): %x", x, b)
		}
	})
}

// P2.15
func TestThereAndBack(t *testing.T) {
	words(5000, func(x api.Word) {
		b := word.Bytes(x)
		y, e := word.Read(b[:])
		wantWord(t, "Read", b, y, e, x, api.OK)
		y, e = word.Read(word.Least(x))
		wantWord(t, "Read", word.Least(x), y, e, x, api.OK)
		y, e = word.Parse(word.Hex(x))
		wantWord(t, "Parse", word.Hex(x), y, e, x, api.OK)
		y, e = word.Parse(word.Dec(x))
		wantWord(t, "Parse", word.Dec(x), y, e, x, api.OK)
	})
}

// P2: an answer shares memory with no other, and neither what is handed in nor what lies behind its length is changed.
func TestMemory(t *testing.T) {
	x := power(200, 5)
	first, second := word.Least(x), word.Least(x)
	first[0] = 99
	if !bytes.Equal(second, word.Least(x)) || second[0] == 99 {
		t.Error("two answers share memory")
	}
	if more := append(second[:len(second):cap(second)], 1); &more[0] == &first[0] {
		t.Error("two answers share memory")
	}
	b := upTo(40)
	if y, e := word.Read(b[:3]); e != api.OK || y != (api.Word{40<<16 | 39<<8 | 38}) || !bytes.Equal(b, upTo(40)) {
		t.Error(y, e, b)
	}
	if y, e := word.Read(b[:33]); e != api.ErrLong || y != (api.Word{}) || !bytes.Equal(b, upTo(40)) {
		t.Error(y, e, b)
	}
}
