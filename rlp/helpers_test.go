package rlp_test

import (
	"bytes"
	"encoding/hex"
	"strings"
	"testing"

	"cairn/api"
	"cairn/rlp"
)

// run is n bytes in which neither bytes nor words come again soon.
func run(n int) []byte {
	b := make([]byte, n)
	for i := range b {
		b[i] = byte(7*i + i/5 + 131)
	}
	return b
}

// fromHex reads bytes to the base 16, with blanks where one likes.
func fromHex(t *testing.T, s string) []byte {
	t.Helper()
	b, err := hex.DecodeString(strings.ReplaceAll(s, " ", ""))
	if err != nil {
		t.Fatal(err)
	}
	return b
}

// join puts bytes behind one another.
func join(parts ...[]byte) []byte { return bytes.Join(parts, nil) }

// words is the text of s.
func words(s string) api.Item { return api.Item{Bytes: []byte(s)} }

// group is a list, put together without package rlp.
func group(kids ...api.Item) api.Item { return api.Item{List: 1, Kids: kids} }

// nest is n lists within one another around x.
func nest(n int, x api.Item) api.Item {
	for range n {
		x = group(x)
	}
	return x
}

// source makes numbers that look as if by chance, the same ones each time.
type source struct{ at uint64 }

func (s *source) next() uint64 {
	s.at = s.at*6364136223846793005 + 1442695040888963407
	x := s.at ^ s.at>>33
	x *= 0xff51afd7ed558ccd
	return x ^ x>>29
}

// below is a number from 0 to n - 1.
func (s *source) below(n int) int { return int(s.next() % uint64(n)) }

// text is a text whose length is often one at which the form turns.
func (s *source) text() api.Item {
	n := []int{0, 1, 1, 2, 3, 20, 32, 54, 55, 56, 57, 255, 256, 300}[s.below(14)]
	b := make([]byte, n)
	for i := range b {
		b[i] = byte(s.next())
	}
	return api.Item{Bytes: b}
}

// item is an item that may be, with at most so many lists within one another.
func (s *source) item(deep int) api.Item {
	if deep == 0 || s.below(3) == 0 {
		return s.text()
	}
	x := group()
	for range s.below(5) {
		x.Kids = append(x.Kids, s.item(deep-1))
	}
	return x
}

// wantForm holds Encode, Size and Decode of an item against the form that it has.
func wantForm(t *testing.T, name string, x api.Item, form []byte) {
	t.Helper()
	got, e := rlp.Encode(x)
	if e != api.OK || !bytes.Equal(got, form) {
		t.Errorf("%s: Encode: %s, %d; not %s", name, clip(got), e, clip(form))
	}
	if n, e := rlp.Size(x); e != api.OK || n != len(form) {
		t.Errorf("%s: Size: %d, %d; not %d", name, n, e, len(form))
	}
	back, e := rlp.Decode(form)
	if e != api.OK || !alike(back, x) {
		t.Errorf("%s: Decode: another item, %d", name, e)
	}
}

// wantNoForm asks Encode and Size of an item that may not be for their error.
func wantNoForm(t *testing.T, name string, x api.Item, should api.Errno) {
	t.Helper()
	if b, e := rlp.Encode(x); e != should || b != nil {
		t.Errorf("%s: Encode: %x, %d; not %d", name, b, e, should)
	}
	if n, e := rlp.Size(x); e != should || n != 0 {
		t.Errorf("%s: Size: %d, %d; not %d", name, n, e, should)
	}
}

// wantRefused asks Decode for an error, and for nothing beside it.
func wantRefused(t *testing.T, b []byte, should api.Errno) {
	t.Helper()
	x, e := rlp.Decode(b)
	if e != should || x.List != 0 || x.Bytes != nil || x.Kids != nil {
		t.Errorf("Decode of %s: %d, not %d, with %v", clip(b), e, should, x)
	}
}

// clip is how long bytes are told.
func clip(b []byte) string {
	if len(b) > 40 {
		return hex.EncodeToString(b[:40]) + ".."
	}
	return hex.EncodeToString(b)
}
