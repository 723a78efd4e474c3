package wal_test

import (
	"bytes"
	"slices"
	"testing"

	"cairn/api"
	"cairn/disk"
	"cairn/wal"
)

// spoil writes over all that a list has, and what lies behind its length.
func spoil[T any](l []T, with T) {
	l = l[:cap(l)]
	for i := range l {
		l[i] = with
	}
}

// spoilAll writes over all records of batches, and over the lists of them.
func spoilAll(batches [][][]byte) {
	for _, batch := range batches {
		for _, record := range batch {
			spoil(record, '!')
		}
		spoil(batch, []byte("!"))
	}
	spoil(batches, batchOf("!"))
}

func TestWhatIsHandedInIsNotKept(t *testing.T) { // P2
	l, d := opened(t, api.Plan{Fail: []int{3}})
	for range 2 { // the second fails
		batch := batchOf("ab", "", "c")
		l.Append(batch)
		spoilAll([][][]byte{batch})
	}
	batch := batchOf("de")
	must(t, l.Append(batch))
	spoilAll([][][]byte{batch})
	want := [][][]byte{batchOf("ab", "", "c"), batchOf("de")}
	wantTold(t, "appended", l, want)
	wantFile(t, "appended", d, row(want...), row(want...))

	b := row(some()...)
	told, _ := wal.Read(b)
	spoil(b, '!')
	wantText(t, "Read", text(told), text(some()))

	batch = batchOf("ab", "c")
	b, e := wal.Encode(0, batch)
	must(t, e)
	spoilAll([][][]byte{batch})
	wantRead(t, "Encode", b, batchOf("ab", "c"))
}

func TestWhatIsHandedInIsNotChanged(t *testing.T) { // P2
	long := []byte("abc.....")
	batch := [][]byte{long[:3], long[3:3], long[1:2], []byte("behind"), nil}[:3]
	witness := slices.Clone(batch[:5])
	l, _ := opened(t, api.Plan{Fail: []int{3}})
	for range 3 { // the second fails
		l.Append(batch)
	}
	_, e := wal.Encode(3, batch)
	must(t, e)
	wantText(t, "the bytes", string(long), "abc.....")
	for i, record := range batch[:5] {
		if len(record) != len(witness[i]) || len(record) > 0 && &record[0] != &witness[i][0] {
			t.Errorf("record %d is another one", i)
		}
	}
	wantText(t, "what lies behind the length is not read", text(l.Batches()[:1]), `["abc" "" "b"]`)

	b := append(row(x, y), "behind"...)
	was := bytes.Clone(b)
	for n := range len(row(x, y)) + 1 {
		wal.Read(b[:n])
		wal.Read(b[:n:n])
	}
	if !bytes.Equal(b, was) {
		t.Error("bytes were written into")
	}
}

func TestReadLooksAtNothingBehind(t *testing.T) { // P2
	b := row(x, y)
	for n := range len(b) {
		want := [][][]byte{x}
		if n < len(row(x)) {
			want = nil
		}
		wantRead(t, "the rest lies behind the length", b[:n], want...)
	}
}

func TestWhatIsToldIsTheCallersOwn(t *testing.T) { // P2
	l, d := opened(t, api.Plan{}, some()...)
	must(t, l.Append(x))
	want := append(some(), x)
	each := l.Each()
	for range 3 {
		other := l.Batches()
		spoilAll(l.Batches())
		wantText(t, "another answer", text(other), text(want))
		for _, record := range each {
			spoil(record, '!')
		}
		for _, record := range l.Each() {
			spoil(record, '!')
		}
		wantTold(t, "the log", l, want)
		var told [][]byte
		for _, record := range each {
			told = append(told, record)
		}
		wantText(t, "Each, gone over again", text([][][]byte{told}), text([][][]byte{slices.Concat(want...)}))
		for i, record := range told {
			spoil(record, byte('0'+i))
		}
		for i, record := range told {
			if !bytes.Equal(record, bytes.Repeat([]byte{byte('0' + i)}, len(record))) {
				t.Errorf("record %d shares memory with another", i)
			}
		}
	}
	must(t, l.Append(y))
	want = append(want, y)
	wantTold(t, "gone on", l, want)
	wantTold(t, "behind a crash", reopened(t, d), want)
}

func TestRecordsOfOneAnswerAreApart(t *testing.T) { // P2: also behind their lengths
	apart := func(what string, told [][][]byte, want [][][]byte) {
		t.Helper()
		for _, batch := range told {
			for _, record := range batch {
				spoil(record[len(record):], '!')
			}
			spoil(batch[len(batch):], []byte("!"))
		}
		wantText(t, what, text(told), text(want))
	}
	told, _ := wal.Read(row(some()...))
	apart("Read", told, some())
	l, _ := opened(t, api.Plan{}, some()...)
	apart("Batches", l.Batches(), some())
	wantTold(t, "the log", l, some())
}

func TestAnswersOfReadAndEncodeAreApart(t *testing.T) { // P2
	b := row(some()...)
	first, _ := wal.Read(b)
	second, _ := wal.Read(b)
	spoilAll(first)
	wantText(t, "another Read", text(second), text(some()))
	if !bytes.Equal(b, row(some()...)) {
		t.Error("what Read told was a part of its bytes")
	}
	batch := batchOf("ab", "c")
	e1, _ := wal.Encode(0, batch)
	e2, _ := wal.Encode(0, batch)
	spoil(e1, '!')
	wantRead(t, "another Encode", e2, batchOf("ab", "c"))
	wantText(t, "the batch", text([][][]byte{batch}), `["ab" "c"]`)
}

func TestNilAndEmptyAreTheSame(t *testing.T) { // P3
	for _, none := range [][]byte{nil, {}} {
		b, e := wal.Encode(0, [][]byte{none, []byte("a"), none})
		must(t, e)
		wantRead(t, "empty records", b, batchOf("", "a", ""))
		d := disk.New(api.Plan{})
		l, e := wal.Open(d, name)
		must(t, e, l.Append([][]byte{none}))
		wantTold(t, "empty records", l, [][][]byte{batchOf("")})
		wantRead(t, "no bytes", none)
	}
	for _, none := range [][][]byte{nil, {}} {
		_, e := wal.Encode(0, none)
		wantErrno(t, "Encode of no records", e, api.ErrBatch)
		l, _ := opened(t, api.Plan{})
		wantErrno(t, "Append of no records", l.Append(none), api.ErrBatch)
	}
}

func TestTheSameEachTime(t *testing.T) { // P3
	for range 3 {
		b, e := wal.Encode(5, z)
		if e != api.OK || !bytes.Equal(b, plain(5, z)) {
			t.Errorf("Encode: %q, %d", b, e)
		}
		wantRead(t, "Read", row(x, y), x, y)
	}
}
