package store_test

import (
	"bytes"
	"fmt"
	"iter"
	"maps"
	"slices"
	"strings"
	"testing"

	"cairn/api"
	"cairn/digest"
	"cairn/disk"
	"cairn/store"
	"cairn/wal"
)

// put is a put of a value, gone one that takes a key away.
func put(key, value string) api.Put { return api.Put{Key: key, Value: []byte(value)} }

func gone(key string) api.Put { return api.Put{Key: key, Gone: true} }

// least are so many bytes of a number, the least ahead.
func least(n uint64, many int) []byte {
	var b []byte
	for ; many > 0; many-- {
		b = append(b, byte(n%256))
		n /= 256
	}
	return b
}

// sealed are bytes with the first eight of their Keccak behind them.
func sealed(b []byte) []byte {
	h := digest.Keccak(b)
	return append(slices.Clone(b), h[:8]...)
}

// recordOf is a put's record, by the chapter's words.
func recordOf(p api.Put) []byte {
	b := []byte{0, byte(len(p.Key))}
	if p.Gone {
		b[0] = 1
	}
	return slices.Concat(b, []byte(p.Key), p.Value)
}

// lengthAhead are bytes with their length ahead, as they stand in a segment.
func lengthAhead(b []byte) []byte { return append(least(uint64(len(b)), 4), b...) }

// segmentOf are the bytes that a segment with these puts would have, were they in order.
func segmentOf(puts ...api.Put) []byte {
	var b []byte
	for _, p := range puts {
		b = append(b, lengthAhead(recordOf(p))...)
	}
	return sealed(b)
}

// manifestOf are the bytes that a manifest with these numbers would have, were it one.
func manifestOf(next uint64, numbers ...uint64) []byte {
	var b []byte
	for _, n := range append(slices.Clone(numbers), next) {
		b = append(b, least(n, 8)...)
	}
	return sealed(b)
}

// logOf are the bytes of a log with these batches of puts.
func logOf(t *testing.T, batches ...[]api.Put) []byte {
	t.Helper()
	var b []byte
	for i, puts := range batches {
		var batch [][]byte
		for _, p := range puts {
			batch = append(batch, recordOf(p))
		}
		more, e := wal.Encode(i, batch)
		must(t, e)
		b = append(b, more...)
	}
	return b
}

// files are what lies on a disk, by names.
type files map[string][]byte

// laid is a disk with these files, safe, which goes by plan p from its first operation on.
func laid(t *testing.T, l files, p api.Plan) *disk.Disk {
	t.Helper()
	d := disk.New(api.Plan{})
	for name, data := range l {
		must(t, d.Create(name), d.Append(name, data), d.Sync(name))
	}
	must(t, d.Start(p))
	return d
}

// opened is a store on a new disk, which goes by plan p from the first operation behind Open on.
func opened(t *testing.T, p api.Plan) (*store.Store, *disk.Disk) {
	t.Helper()
	d := disk.New(api.Plan{})
	s, e := store.Open(d)
	must(t, e, d.Start(p))
	return s, d
}

// reopened is the store on a disk that has died, or dies now, started again.
func reopened(t *testing.T, d *disk.Disk) *store.Store {
	t.Helper()
	must(t, d.Start(api.Plan{}))
	s, e := store.Open(d)
	must(t, e)
	return s
}

// has is a map of what a store has.
type has map[string]string

// with is the map with puts done to it, one behind the other.
func (h has) with(puts ...api.Put) has {
	m := has{}
	maps.Copy(m, h)
	for _, p := range puts {
		if p.Gone {
			delete(m, p.Key)
		} else {
			m[p.Key] = string(p.Value)
		}
	}
	return m
}

// text tells a map in the order of its keys.
func (h has) text() string {
	var parts []string
	for _, key := range slices.Sorted(maps.Keys(h)) {
		parts = append(parts, short(key)+": "+short(h[key]))
	}
	return strings.Join(parts, ", ")
}

// short is a text that isn't too long to be told.
func short(s string) string {
	if len(s) > 80 {
		return fmt.Sprintf("%d bytes %x", len(s), sealed([]byte(s))[len(s):])
	}
	return fmt.Sprintf("%q", s)
}

// tell puts what is ranged over on one line, in its order.
func tell(each iter.Seq2[string, []byte]) string {
	var parts []string
	for key, value := range each {
		parts = append(parts, short(key)+": "+short(string(value)))
	}
	return strings.Join(parts, ", ")
}

// wantHas holds all that a store tells of what it has against a map.
func wantHas(t *testing.T, what string, s *store.Store, want has) {
	t.Helper()
	wantText(t, what+": Each", tell(s.Each("")), want.text())
	if s.Len() != len(want) {
		t.Errorf("%s: Len %d, want %d", what, s.Len(), len(want))
	}
	for key := range want {
		for _, near := range []string{key, key + "\x00", key[:len(key)-1], key[:len(key)-1] + "\xff\xff"} {
			if value, is := want[near]; is {
				wantGet(t, what, s, near, value)
			} else {
				wantNone(t, what, s, near)
			}
		}
	}
}

func wantGet(t *testing.T, what string, s *store.Store, key, value string) {
	t.Helper()
	if b, is, e := s.Get(key); string(b) != value || !is || e != api.OK {
		t.Errorf("%s: Get %s: %s, %v, %d, want %s", what, short(key), short(string(b)), is, e, short(value))
	}
}

func wantNone(t *testing.T, what string, s *store.Store, key string) {
	t.Helper()
	if b, is, e := s.Get(key); len(b) > 0 || is || e != api.OK {
		t.Errorf("%s: Get %s: %s, %v, %d, want none", what, short(key), short(string(b)), is, e)
	}
}

// wantCounts holds Segments and Pending against what they must be.
func wantCounts(t *testing.T, what string, s *store.Store, segments, pending int) {
	t.Helper()
	if s.Segments() != segments || s.Pending() != pending {
		t.Errorf("%s: Segments %d, Pending %d, want %d, %d", what, s.Segments(), s.Pending(), segments, pending)
	}
}

// lies tells what is safe on a disk.
func lies(d *disk.Disk) files {
	l := files{}
	for _, f := range d.Safe() {
		l[f.Name] = f.Data
	}
	return l
}

// wantFiles holds what lies on a disk, and what is safe of it, against what must.
func wantFiles(t *testing.T, what string, d *disk.Disk, want files) {
	t.Helper()
	data := files{}
	for _, f := range d.Files() {
		data[f.Name] = f.Data
	}
	for _, got := range []files{data, lies(d)} {
		if !maps.EqualFunc(got, want, bytes.Equal) {
			t.Errorf("%s: the files are\n%q, want\n%q", what, got, want)
		}
	}
}

func wantErrno(t *testing.T, what string, got, want api.Errno) {
	t.Helper()
	if got != want {
		t.Errorf("%s: got error %d, want %d", what, got, want)
	}
}

func wantText(t *testing.T, what, got, want string) {
	t.Helper()
	if got != want {
		t.Errorf("%s: got %s, want %s", what, got, want)
	}
}

func wantOps(t *testing.T, what string, d *disk.Disk, want int) {
	t.Helper()
	if d.Ops() != want {
		t.Errorf("%s: %d operations of the disk, want %d", what, d.Ops(), want)
	}
}

// must fails the test at once if something that it only prepares is refused.
func must(t *testing.T, es ...api.Errno) {
	t.Helper()
	for i, e := range es {
		if e != api.OK {
			t.Fatalf("preparing: call %d answered %d", i, e)
		}
	}
}

// source is a row of numbers that is the same at every run.
type source uint64

func (s *source) below(n int) int {
	*s = *s*6364136223846793005 + 1442695040888963407
	return int(uint64(*s) >> 33 % uint64(n))
}

// text is a text of so many bytes out of few.
func (s *source) text(long int) string {
	b := make([]byte, long)
	for i := range b {
		b[i] = "\x00ab\xff"[s.below(4)]
	}
	return string(b)
}

// puts are a few puts of few keys, one key several times among them.
func (s *source) puts() []api.Put {
	var l []api.Put
	for range 1 + s.below(5) {
		if key := s.text(1 + s.below(2)); s.below(3) == 0 {
			l = append(l, gone(key))
		} else {
			l = append(l, put(key, s.text(s.below(6))))
		}
	}
	return l
}
