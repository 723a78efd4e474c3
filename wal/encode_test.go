package wal_test

import (
	"bytes"
	"encoding/hex"
	"math"
	"slices"
	"testing"

	"cairn/api"
	"cairn/wal"
)

// manyOf are so many records of a length.
func manyOf(many, long int) [][]byte {
	var batch [][]byte
	for i := range many {
		batch = append(batch, bytes.Repeat([]byte{byte(i)}, long))
	}
	return batch
}

// withBody is a batch whose body has so many bytes more than MaxBody: 15 records of MaxRecord bytes, and one with the rest.
func withBody(more int) [][]byte {
	batch := manyOf(15, api.MaxRecord)
	rest := api.MaxBody - (8 + 4) - 15*(4+api.MaxRecord) - 4
	return append(batch, make([]byte, rest+more))
}

// put is a batch of small records with another record at a place.
func put(many, at int, record []byte) [][]byte {
	batch := manyOf(many, 1)
	batch[at] = record
	return batch
}

// good are batches of all shapes that may be, up to the limits.
func good() map[string][][]byte {
	return map[string][][]byte{
		"one record":                   batchOf("a"),
		"an empty record":              batchOf(""),
		"a nil record":                 {nil},
		"empty records":                manyOf(3, 0),
		"empty ones between":           batchOf("", "abc", "", "d", ""),
		"MaxBatch empty records":       manyOf(api.MaxBatch, 0),
		"MaxBatch records":             manyOf(api.MaxBatch, 3),
		"a record of 255 bytes":        manyOf(1, 255),
		"a record of 256 bytes":        manyOf(1, 256),
		"a record of 65536 bytes":      manyOf(1, 65536),
		"a record one below MaxRecord": manyOf(1, api.MaxRecord-1),
		"a record of MaxRecord":        manyOf(1, api.MaxRecord),
		"the last record of MaxRecord": put(5, 4, make([]byte, api.MaxRecord)),
		"a body one below MaxBody":     withBody(-1),
		"a body of MaxBody":            withBody(0),
		"one below MaxBatch":           manyOf(api.MaxBatch-1, 0),
	}
}

// bad are lists of records that are no batches.
func bad() map[string][][]byte {
	return map[string][][]byte{
		"nil":                              nil,
		"no records":                       {},
		"MaxBatch + 1 empty records":       manyOf(api.MaxBatch+1, 0),
		"MaxBatch + 1 records":             manyOf(api.MaxBatch+1, 2),
		"a record of MaxRecord + 1":        manyOf(1, api.MaxRecord+1),
		"the first of MaxRecord + 1":       put(5, 0, make([]byte, api.MaxRecord+1)),
		"the last of MaxRecord + 1":        put(5, 4, make([]byte, api.MaxRecord+1)),
		"a body of MaxBody + 1":            withBody(1),
		"16 records of MaxRecord":          manyOf(16, api.MaxRecord),
		"MaxBatch records, all of 4 KiB":   manyOf(api.MaxBatch, 1<<12),
		"a long record behind a full body": append(withBody(0), make([]byte, api.MaxRecord+1)),
	}
}

func TestEncode(t *testing.T) { // P10.2
	for what, batch := range good() {
		for _, number := range []int{0, 1, 255, 256, 1 << 31, math.MaxInt} {
			if len(batch) > 1000 && number > 1 || len(batch[0]) > 1<<16 && number > 0 {
				continue // as good as the smaller ones for what a number looks like
			}
			b, e := wal.Encode(number, batch)
			if e != api.OK || !bytes.Equal(b, plain(number, batch)) {
				t.Errorf("%s, number %d: %d bytes, error %d", what, number, len(b), e)
			}
		}
	}
}

func TestEncodeOfNoBatch(t *testing.T) { // P10.2
	for what, batch := range bad() {
		b, e := wal.Encode(7, batch)
		wantErrno(t, what, e, api.ErrBatch)
		if len(b) > 0 {
			t.Errorf("%s: %d bytes beside the error", what, len(b))
		}
	}
}

func TestEncodeBelowNought(t *testing.T) { // P10.2, P4: ErrRange ahead of ErrBatch
	for _, number := range []int{-1, -256, math.MinInt} {
		for _, batch := range [][][]byte{batchOf("a"), nil, {}, manyOf(api.MaxBatch+1, 0), manyOf(1, api.MaxRecord+1)} {
			b, e := wal.Encode(number, batch)
			wantErrno(t, "a number below 0", e, api.ErrRange)
			if len(b) > 0 {
				t.Errorf("number %d: %q beside the error", number, b)
			}
		}
	}
}

func TestBytesByHand(t *testing.T) { // P10.2: bytes written out, their digests worked out elsewhere
	for _, x := range []struct {
		number int
		batch  [][]byte
		want   string
	}{
		{0, batchOf("a"), "11000000" + "0000000000000000" + "01000000" + "01000000" + "61" + "75d79a42cb634538"},
		{258, batchOf("", "bc"), "16000000" + "0201000000000000" + "02000000" + "00000000" + "02000000" + "6263" + "3bcc6e972fe21a30"},
	} {
		b, e := wal.Encode(x.number, x.batch)
		must(t, e)
		wantText(t, "the bytes", hex.EncodeToString(b), x.want)
	}
}

func TestLengthsOfTheGreatest(t *testing.T) { // the limits are what the test thinks they are
	if n := len(plain(0, withBody(0))) - 12; n != api.MaxBody {
		t.Errorf("a body of %d bytes", n)
	}
	if n := len(slices.Concat(withBody(0)...)); n != 1<<24-12-16*4 {
		t.Errorf("records of %d bytes", n)
	}
}
