package wal_test

import (
	"bytes"
	"fmt"
	"math"
	"slices"
	"testing"

	"cairn/api"
	"cairn/wal"
)

func TestReadOfNothing(t *testing.T) { // P10.2
	wantRead(t, "nil", nil)
	wantRead(t, "empty", []byte{})
	for _, n := range []int{1, 3, 4, 8, 11, 12, 13, 23, 24, 25, 28, 100} {
		wantRead(t, fmt.Sprint(n, " noughts"), make([]byte, n))
		wantRead(t, fmt.Sprint(n, " bytes of 255"), bytes.Repeat([]byte{255}, n))
	}
}

func TestReadOfWhatIsWhole(t *testing.T) { // P10.2
	for n := range len(some()) + 1 {
		wantRead(t, fmt.Sprint(n, " batches"), row(some()[:n]...), some()[:n]...)
	}
	for what, batch := range good() {
		wantRead(t, what, row(batch, batchOf("z")), batch, batchOf("z"))
	}
}

// wholeIn is how many batches of some are whole in their first n bytes.
func wholeIn(n int) int {
	whole := 0
	for whole < len(some()) && len(row(some()[:whole+1]...)) <= n {
		whole++
	}
	return whole
}

func TestReadOfBytesCutOff(t *testing.T) { // P10.2, P10.8
	b := row(some()...)
	for n := range len(b) + 1 {
		wantRead(t, fmt.Sprint("the first ", n), b[:n], some()[:wholeIn(n)]...)
		wantRead(t, fmt.Sprint("the first ", n, " alone"), slices.Clone(b[:n]), some()[:wholeIn(n)]...)
		if noughts := append(slices.Clone(b[:n]), make([]byte, len(b)-n)...); !bytes.Equal(noughts, b) {
			wantRead(t, fmt.Sprint("the first ", n, ", then noughts"), noughts, some()[:wholeIn(n)]...)
		}
	}
}

func TestReadWithAnythingBehind(t *testing.T) { // P10.2, P10.8
	s := source(1)
	for n := range len(some()) + 1 {
		b := row(some()[:n]...)
		for i := range 256 {
			wantRead(t, "one byte behind", append(slices.Clone(b), byte(i)), some()[:n]...)
			wantRead(t, "bytes behind", append(slices.Clone(b), s.bytes(i)...), some()[:n]...)
		}
		if n > 0 {
			wantRead(t, "the same again", append(slices.Clone(b), b...), some()[:n]...)
		}
		next := plain(n, batchOf("next"))
		wantRead(t, "the next one", append(slices.Clone(b), next...), append(some()[:n:n], batchOf("next"))...)
		for i := range next {
			wantRead(t, "a part of the next one", append(slices.Clone(b), next[:i]...), some()[:n]...)
			wantRead(t, "an end of the next one", append(slices.Clone(b), next[i+1:]...), some()[:n]...)
		}
	}
}

func TestReadWithAnyByteChanged(t *testing.T) { // P10.2
	l := [][][]byte{batchOf("ab", ""), batchOf("c"), batchOf("d")}
	b := row(l...)
	for i := range b {
		whole := 0
		for len(row(l[:whole+1]...)) <= i {
			whole++
		}
		for other := range 256 {
			if byte(other) == b[i] {
				continue
			}
			c := slices.Clone(b)
			c[i] = byte(other)
			wantRead(t, fmt.Sprint("byte ", i, " changed to ", other), c, l[:whole]...)
		}
	}
}

func TestReadWithOtherNumbers(t *testing.T) { // P10.2
	x, y := batchOf("x"), batchOf("y")
	for _, number := range []int{1, 2, 255, 256, 1 << 16, 1 << 32, 1 << 56, math.MaxInt} {
		wantRead(t, fmt.Sprint("the first is ", number), plain(number, x))
		if number > 1 {
			wantRead(t, fmt.Sprint("the second is ", number), append(row(x), plain(number, y)...), x)
		}
	}
	wantRead(t, "nought twice", append(row(x), plain(0, y)...), x)
	wantRead(t, "one twice", append(row(x, y), plain(1, y)...), x, y)
	wantRead(t, "two is left out", slices.Concat(row(x, y), plain(3, x), plain(2, y)), x, y)
	for _, number := range []uint64{1 << 63, math.MaxUint64, 1<<32 + 1, 1<<63 + 1} {
		wantRead(t, "a number that Encode refuses", append(row(x), sealed(bodyOf(number, 1, recordOf(nil)))...), x)
	}
}

func TestReadOfManyBatches(t *testing.T) { // P10.2: numbers that take more than one byte
	var l [][][]byte
	for i := range 700 {
		l = append(l, batchOf(fmt.Sprint(i)))
	}
	wantRead(t, "700 batches", row(l...), l...)
	b := row(l...)
	copy(b[len(row(l[:257]...)):], plain(1, l[257]))
	wantRead(t, "257 is numbered 1", b, l[:257]...)
}

// forged are bytes with a right digest that are no batch's for what their lengths say.
func forged() map[string][]byte {
	r, none := recordOf([]byte("abc")), recordOf(nil)
	m := map[string][]byte{
		"no records":                       bodyOf(0, 0),
		"no records, and one":              bodyOf(0, 0, r),
		"one record that isn't there":      bodyOf(0, 1),
		"one of two is there":              bodyOf(0, 2, r),
		"two of one":                       bodyOf(0, 1, r, r),
		"an empty one too many":            bodyOf(0, 1, r, none),
		"a byte too many":                  bodyOf(0, 1, r, []byte{0}),
		"a byte too few":                   bodyOf(0, 1, r[:len(r)-1]),
		"a record one too long":            bodyOf(0, 1, least(4, 4), []byte("abc")),
		"a record one too short":           bodyOf(0, 1, least(2, 4), []byte("abc")),
		"a record's length torn":           bodyOf(0, 1, least(0, 3)),
		"a second record's length torn":    bodyOf(0, 2, r, least(0, 3)),
		"a record of 2^32 - 1":             bodyOf(0, 1, least(1<<32-1, 4), []byte("abc")),
		"a record of 2^31":                 bodyOf(0, 1, least(1<<31, 4), []byte("abc")),
		"2^32 - 1 records":                 bodyOf(0, 1<<32-1, r),
		"2^31 records":                     bodyOf(0, 1<<31, r),
		"a record of MaxRecord + 1":        bodyOf(0, 1, recordOf(make([]byte, api.MaxRecord+1))),
		"a second record of MaxRecord + 1": bodyOf(0, 2, r, recordOf(make([]byte, api.MaxRecord+1))),
		"MaxBatch + 1 records":             bodyOf(0, api.MaxBatch+1, bytes.Repeat(none, api.MaxBatch+1)),
		"MaxBatch + 1 records, 4096 there": bodyOf(0, api.MaxBatch+1, bytes.Repeat(none, api.MaxBatch)),
	}
	long := withBody(1)
	m["a body of MaxBody + 1"] = plain(0, long)[4:][:api.MaxBody+1]
	for n := range 12 {
		m[fmt.Sprint("a body of ", n, " noughts")] = make([]byte, n)
		m[fmt.Sprint("a body of ", n, " bytes")] = bodyOf(0, 1, r)[:n]
	}
	for what, body := range m {
		m[what] = sealed(body)
	}
	return m
}

func TestReadOfWrongLengths(t *testing.T) { // P10.2
	for what, b := range forged() {
		wantRead(t, what, b)
		wantRead(t, what+", more behind", append(slices.Clone(b), row(batchOf("a"), batchOf("b"))...))
	}
	first := batchOf("first")
	for what, b := range forged() {
		body := slices.Clone(b[4 : len(b)-8])
		if len(body) > 0 && len(body) < 1000 {
			body[0] = 1
			wantRead(t, what+", as the second", append(row(first), sealed(body)...), first)
		}
	}
}

func TestReadOfWrongBodyLengths(t *testing.T) { // P10.2
	right := row(batchOf("abc"))
	for _, n := range []uint64{0, 1, 11, 12, 15, 16, 18, 20, 27, 28, api.MaxBody, api.MaxBody + 1, 1 << 31, 1<<32 - 1} {
		body := right[4 : len(right)-8]
		b := slices.Concat(least(n, 4), body)
		wantRead(t, fmt.Sprint("a length of ", n), append(slices.Clone(b), sealed(body)[len(body)+4:]...))
		wantRead(t, fmt.Sprint("a length of ", n, ", sealed"), resealed(b))
		wantRead(t, fmt.Sprint("a length of ", n, ", more behind"), append(resealed(b), right...))
	}
}

func TestReadOfLengthsTornAtTheDigest(t *testing.T) { // P10.2: a digest that begins with noughts is not the rest of a length
	for torn := 2; torn <= 3; torn++ {
		found := false
		for try := 0; try < 1<<20 && !found; try++ {
			b := sealed(bodyOf(0, 2, recordOf(least(uint64(try), 4)), least(0, torn)))
			if found = bytes.HasPrefix(b[len(b)-8:], make([]byte, 4-torn)); found {
				wantRead(t, fmt.Sprint(torn, " bytes of a length"), b)
			}
		}
		if !found {
			t.Errorf("no such digest behind %d bytes", torn)
		}
	}
}

// resealed are bytes with the digest of all of them behind.
func resealed(b []byte) []byte { return slices.Concat(b, digest8(b)) }

func TestSealIsOfAllThat(t *testing.T) { // P10.2: a digest of the body alone, or of fewer bytes, is none
	b := row(batchOf("a"))
	body := b[4 : len(b)-8]
	wantRead(t, "the body's digest", slices.Concat(b[:len(b)-8], digest8(body)))
	wantRead(t, "a part's digest", slices.Concat(b[:len(b)-8], digest8(b[:len(b)-9])))
	wantRead(t, "the digest of all", slices.Concat(b[:len(b)-8], digest8(b[:len(b)-8])), batchOf("a"))
}

// wholeBeginning is the word of the chapter, by trying: it takes what stands there for a batch, and holds that batch's bytes against it.
func wholeBeginning(b []byte) ([][][]byte, int) {
	var l [][][]byte
	at := 0
	for {
		batch := guess(b[at:])
		n, ok := bodyBytes(batch)
		if !ok || n+12 > len(b)-at || !bytes.Equal(plain(len(l), batch), b[at:at+n+12]) {
			return l, at
		}
		l = append(l, batch)
		at += n + 12
	}
}

// guess are the records that would stand in b if it were a batch's bytes; what isn't there is taken as it comes.
func guess(b []byte) [][]byte {
	take := func(n int) []byte {
		n = min(n, len(b))
		part := b[:n]
		b = b[n:]
		return part
	}
	number := func(n int) int {
		v := 0
		for i, x := range take(n) {
			v += int(x) << (8 * i)
		}
		return v
	}
	number(4)
	take(8)
	var batch [][]byte
	for range min(number(4), api.MaxBatch+1) {
		batch = append(batch, take(number(4)))
	}
	return batch
}

// bodyBytes are how many bytes a batch's body has, and whether it is one, by the chapter's words.
func bodyBytes(batch [][]byte) (int, bool) {
	n := 8 + 4
	for _, r := range batch {
		n += 4 + len(r)
		if len(r) > api.MaxRecord {
			return 0, false
		}
	}
	return n, len(batch) >= 1 && len(batch) <= api.MaxBatch && n <= api.MaxBody
}

func TestReadIsTheWholeBeginning(t *testing.T) { // P10.2, P10.8: bytes that were spoiled, with digests that are right all the same
	told := 0
	for seed := range 30000 {
		s := source(seed)
		var b []byte
		for i := range s.below(5) {
			body := plain(i, s.batch())
			body = body[4 : len(body)-8]
			for s.below(6) == 0 {
				body[s.below(len(body))] = byte(s.below(5))
			}
			if s.below(20) == 0 {
				body = body[:s.below(len(body))]
			}
			b = append(b, sealed(body)...)
		}
		for len(b) > 0 && s.below(4) == 0 {
			b[s.below(len(b))] ^= byte(s.below(4))
		}
		want, n := wholeBeginning(b)
		l, m := wal.Read(b)
		if text(l) != text(want) || n != m {
			t.Fatalf("seed %d: %s, %d bytes, want %s, %d: of %x", seed, text(l), m, text(want), n, b)
		}
		told += len(l)
	}
	if told < 10000 {
		t.Errorf("only %d batches were told at all", told)
	}
}
