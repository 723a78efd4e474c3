package wal_test

import (
	"bytes"
	"testing"

	"cairn/api"
	"cairn/digest"
	"cairn/disk"
	"cairn/wal"
)

func TestExample1(t *testing.T) {
	b, e := wal.Encode(0, [][]byte{[]byte("a")})
	wantErrno(t, "Encode", e, api.OK)
	if len(b) != 4+17+8 || !bytes.Equal(b[:4], []byte{17, 0, 0, 0}) {
		t.Fatalf("%d bytes: %v", len(b), b)
	}
	body := []byte{0, 0, 0, 0, 0, 0, 0, 0, 1, 0, 0, 0, 1, 0, 0, 0, 'a'}
	hash := digest.Keccak(b[:21])
	if !bytes.Equal(b[4:21], body) || !bytes.Equal(b[21:], hash[:8]) {
		t.Errorf("the bytes are %v", b)
	}
	l, n := wal.Read(append(b, 0))
	if len(l) != 1 || len(l[0]) != 1 || string(l[0][0]) != "a" || n != 29 {
		t.Errorf("Read: %q, %d", l, n)
	}
}

func TestExample2(t *testing.T) {
	for _, x := range []struct {
		keep []int
		want int
	}{{nil, 1}, {[]int{-1}, 2}} {
		d := disk.New(api.Plan{Crash: 5, Keep: x.keep})
		l, e := wal.Open(d, name)
		must(t, e, l.Append(batchOf("first")))
		wantErrno(t, "it dies ahead of the Sync", l.Append(batchOf("second")), api.ErrDead)
		must(t, d.Start(api.Plan{}))
		m, e := wal.Open(d, name)
		wantErrno(t, "Open", e, api.OK)
		wantTold(t, "behind Start", m, [][][]byte{batchOf("first"), batchOf("second")}[:x.want])
	}
}
