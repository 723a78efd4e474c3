package wal_test

import (
	"testing"

	"cairn/api"
	"cairn/wal"
)

func TestNobody(t *testing.T) { // P10.1
	for what, l := range map[string]*wal.Log{"nil": nil, "new": new(wal.Log), "a literal": {}} {
		for range 2 {
			wantTold(t, what, l, nil)
			for _, batch := range [][][]byte{batchOf("a"), batchOf(""), nil, {}, make([][]byte, api.MaxBatch+1)} {
				wantErrno(t, what+": Append", l.Append(batch), api.ErrLog)
			}
			wantErrno(t, what+": Reset", l.Reset(), api.ErrLog)
		}
		for range l.Each() {
			t.Error(what, ": a record is told")
		}
	}
}
