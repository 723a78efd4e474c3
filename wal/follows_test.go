package wal_test

import (
	"bytes"
	"fmt"
	"slices"
	"strings"
	"testing"

	"cairn/api"
	"cairn/wal"
)

func TestTorn(t *testing.T) { // P10.8: of bytes cut off anywhere a beginning of the batches; with anything behind at least them
	for seed := range 200 {
		s := source(seed)
		var l [][][]byte
		for range s.below(6) {
			l = append(l, s.batch())
		}
		b := row(l...)
		for n := range len(b) + 1 {
			told, m := wal.Read(b[:n])
			if len(told) > len(l) || !same(told, l[:len(told)]) || m > n || !bytes.Equal(row(told...), b[:m]) {
				t.Fatalf("seed %d, cut at %d: %s, %d bytes, of %s", seed, n, text(told), m, text(l))
			}
			if n-m >= 12 && len(told) < len(l) && n-m >= len(plain(len(told), l[len(told)])) {
				t.Fatalf("seed %d, cut at %d: a whole batch is left out", seed, n)
			}
		}
		for range 20 {
			told, m := wal.Read(append(slices.Clone(b), s.bytes(s.below(60))...))
			if len(told) < len(l) || !same(told[:len(l)], l) || m < len(b) {
				t.Fatalf("seed %d, bytes behind: %s, %d bytes, of %s", seed, text(told), m, text(l))
			}
		}
	}
}

func TestThereAndBack(t *testing.T) { // P10.9
	for seed := range 500 {
		s := source(seed)
		var l [][][]byte
		var b []byte
		for i := range s.below(9) {
			batch := s.batch()
			if s.below(5) == 0 {
				batch = append(batch, s.bytes(s.below(3000)))
			}
			more, e := wal.Encode(i, batch)
			must(t, e)
			l, b = append(l, batch), append(b, more...)
		}
		told, n := wal.Read(b)
		if !same(told, l) || n != len(b) {
			t.Fatalf("seed %d: %s, %d of %d bytes, want %s", seed, text(told), n, len(b), text(l))
		}
	}
	var l [][][]byte
	var b []byte
	for _, what := range []string{"a body of MaxBody", "MaxBatch records", "an empty record", "a record of MaxRecord", "a body of MaxBody"} {
		batch := good()[what]
		more, e := wal.Encode(len(l), batch)
		must(t, e)
		l, b = append(l, batch), append(b, more...)
	}
	if told, n := wal.Read(b); !same(told, l) || n != len(b) {
		t.Errorf("the greatest: %d batches, %d of %d bytes", len(told), n, len(b))
	}
}

func TestRecordsOfAllBytes(t *testing.T) { // P10.9: records that look like batches, and those of every byte
	inner := string(row(some()...))
	l := [][][]byte{batchOf(inner), batchOf(inner, "", inner+inner)}
	for i := range 256 {
		l = append(l, batchOf(strings.Repeat(string([]byte{byte(i)}), i), string([]byte{byte(i)})))
	}
	wantRead(t, "all bytes", row(l...), l...)
	b := row(l[0])
	for n := range b {
		wantRead(t, fmt.Sprint("torn at ", n), b[:n])
	}
	log, d := opened(t, api.Plan{}, l...)
	wantTold(t, "opened", log, l)
	must(t, d.Truncate(name, len(b)-1))
	wantTold(t, "torn, opened", reopened(t, d), l)
	must(t, d.Truncate(name, len(b)-1), d.Sync(name))
	wantTold(t, "torn and synced, opened", reopened(t, d), nil)
}
