package wal_test

import (
	"bytes"
	"fmt"
	"iter"
	"slices"
	"strings"
	"testing"

	"cairn/api"
	"cairn/digest"
	"cairn/disk"
	"cairn/wal"
)

const name = "LOG"

// batchOf is a batch of records of these texts.
func batchOf(records ...string) [][]byte {
	var batch [][]byte
	for _, r := range records {
		batch = append(batch, []byte(r))
	}
	return batch
}

// some are batches of all everyday shapes: one record, several, empty ones among them.
func some() [][][]byte {
	return [][][]byte{batchOf("a"), batchOf("", "bc", ""), batchOf(""), batchOf("def", strings.Repeat("g", 300))}
}

// least are so many bytes of a number, the least ahead.
func least(n uint64, many int) []byte {
	var b []byte
	for ; many > 0; many-- {
		b = append(b, byte(n%256))
		n /= 256
	}
	return b
}

// bodyOf is a body that says what it is told to say, true or not.
func bodyOf(number, count uint64, rest ...[]byte) []byte {
	return slices.Concat(least(number, 8), least(count, 4), bytes.Join(rest, nil))
}

// recordOf is a record in a body, with its length ahead.
func recordOf(record []byte) []byte { return append(least(uint64(len(record)), 4), record...) }

// sealed are the bytes that a batch with that body would have, were it one.
func sealed(body []byte) []byte {
	b := append(least(uint64(len(body)), 4), body...)
	return append(b, digest8(b)...)
}

// digest8 are the first eight bytes of Keccak of b.
func digest8(b []byte) []byte {
	h := digest.Keccak(b)
	return h[:8]
}

// plain are the bytes of a batch, by the chapter's words.
func plain(number int, batch [][]byte) []byte {
	var rest [][]byte
	for _, r := range batch {
		rest = append(rest, recordOf(r))
	}
	return sealed(bodyOf(uint64(number), uint64(len(batch)), rest...))
}

// row are the bytes of batches numbered from 0 on, one behind the other.
func row(batches ...[][]byte) []byte {
	var b []byte
	for i, batch := range batches {
		b = append(b, plain(i, batch)...)
	}
	return b
}

// text tells batches on one line.
func text(batches [][][]byte) string {
	var parts []string
	for _, batch := range batches {
		parts = append(parts, fmt.Sprintf("%q", batch))
	}
	return strings.Join(parts, " ")
}

// same says whether batches have the same records.
func same(a, b [][][]byte) bool {
	return slices.EqualFunc(a, b, func(x, y [][]byte) bool { return slices.EqualFunc(x, y, bytes.Equal) })
}

// tell puts records on one line, each with its batch's number.
func tell(each iter.Seq2[int, []byte]) string {
	var parts []string
	for number, record := range each {
		parts = append(parts, fmt.Sprintf("%d %q", number, record))
	}
	return strings.Join(parts, ", ")
}

func toldByEach(l *wal.Log) string { return tell(l.Each()) }

// wantTold holds everything that can be asked of a log against the batches that it must have.
func wantTold(t *testing.T, what string, l *wal.Log, want [][][]byte) {
	t.Helper()
	wantText(t, what+": Batches", text(l.Batches()), text(want))
	if l.Count() != len(want) {
		t.Errorf("%s: Count %d, want %d", what, l.Count(), len(want))
	}
	if n := len(row(want...)); l.Size() != n {
		t.Errorf("%s: Size %d, want %d", what, l.Size(), n)
	}
	var parts []string
	for number, batch := range want {
		for _, record := range batch {
			parts = append(parts, fmt.Sprintf("%d %q", number, record))
		}
	}
	wantText(t, what+": Each", toldByEach(l), strings.Join(parts, ", "))
}

// wantFile holds the log's file against the data that it must have, and those that must be safe.
func wantFile(t *testing.T, what string, d *disk.Disk, data, safe []byte) {
	t.Helper()
	for i, l := range [][]api.File{d.Files(), d.Safe()} {
		want := [][]byte{data, safe}[i]
		at := slices.IndexFunc(l, func(f api.File) bool { return f.Name == name })
		if at < 0 || !bytes.Equal(l[at].Data, want) {
			t.Errorf("%s: the file is %q (safe: %d), want %q", what, l, i, want)
		}
	}
}

func wantErrno(t *testing.T, what string, got, want api.Errno) {
	t.Helper()
	if got != want {
		t.Errorf("%s: got error %d, want %d", what, got, want)
	}
}

func wantText(t *testing.T, what, got, want string) {
	t.Helper()
	if got != want {
		t.Errorf("%s: got %s, want %s", what, got, want)
	}
}

func wantOps(t *testing.T, what string, d *disk.Disk, want int) {
	t.Helper()
	if d.Ops() != want {
		t.Errorf("%s: %d operations of the disk, want %d", what, d.Ops(), want)
	}
}

// must fails the test at once if something that it only prepares is refused.
func must(t *testing.T, es ...api.Errno) {
	t.Helper()
	for i, e := range es {
		if e != api.OK {
			t.Fatalf("preparing: call %d answered %d", i, e)
		}
	}
}

// laid is a disk with a file of these data, safe, which goes by plan p from its first operation on.
func laid(t *testing.T, data []byte, p api.Plan) *disk.Disk {
	t.Helper()
	d := disk.New(api.Plan{})
	must(t, d.Create(name), d.Append(name, data), d.Sync(name), d.Start(p))
	return d
}

// opened is a log with these batches, on a disk that goes by plan p from its first operation on.
func opened(t *testing.T, p api.Plan, batches ...[][]byte) (*wal.Log, *disk.Disk) {
	t.Helper()
	d := laid(t, row(batches...), p)
	l, e := wal.Open(d, name)
	must(t, e)
	wantOps(t, "opening what is whole", d, 0)
	return l, d
}

// reopened is the log in the file of a disk that has died, started again.
func reopened(t *testing.T, d *disk.Disk) *wal.Log {
	t.Helper()
	must(t, d.Start(api.Plan{}))
	l, e := wal.Open(d, name)
	must(t, e)
	return l
}

// wantRead holds Read against the batches that it must tell.
func wantRead(t *testing.T, what string, b []byte, want ...[][]byte) {
	t.Helper()
	l, n := wal.Read(b)
	if !same(l, want) {
		t.Errorf("%s: got %.2000s, want %.2000s", what, text(l), text(want))
	}
	if m := len(row(want...)); n != m {
		t.Errorf("%s: %d bytes are whole, want %d", what, n, m)
	}
}

// source is a row of numbers that is the same at every run.
type source uint64

func (s *source) below(n int) int {
	*s = *s*6364136223846793005 + 1442695040888963407
	return int(uint64(*s) >> 33 % uint64(n))
}

// bytes are as many bytes.
func (s *source) bytes(n int) []byte {
	b := make([]byte, n)
	for i := range b {
		b[i] = byte(s.below(256))
	}
	return b
}

// batch is a small batch of any shape.
func (s *source) batch() [][]byte {
	var batch [][]byte
	for range 1 + s.below(4) {
		batch = append(batch, s.bytes(s.below(9)))
	}
	return batch
}
