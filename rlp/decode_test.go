package rlp_test

import (
	"fmt"
	"testing"

	"cairn/api"
	"cairn/rlp"
)

// P4.3: the errors, and which of them comes first.
func TestDecodeRefuses(t *testing.T) {
	for _, c := range []struct {
		b      string
		should api.Errno
	}{
		// a kid that goes beyond its list's payload, whatever stands behind that
		{"c1 81", api.ErrShort}, {"c1 82 61 62", api.ErrShort}, {"c2 83 61", api.ErrShort}, {"c2 83 61 62 63", api.ErrShort},
		{"c2 c2 01 02", api.ErrShort}, {"c3 c1 c1 01", api.ErrShort}, {"c3 c2 c1 01", api.OK}, {"c4 01 82 61 62", api.OK}, {"c3 01 82 61 62", api.ErrShort},
		{"c1 b8 38", api.ErrShort}, {"c1 b8 05", api.ErrShort}, {"c1 81 05", api.ErrShort}, {"c2 c1 81 05", api.ErrShort}, {"c2 b9 00 38", api.ErrShort},
		// a kid of another form
		{"c2 81 05", api.ErrForm}, {"c3 81 05 81", api.ErrForm}, {"c3 01 81 05", api.ErrForm}, {"c3 c2 81 05", api.ErrForm}, {"c2 b8 05", api.ErrForm},
		{"c3 b9 00 38", api.ErrForm}, {"c2 f8 00", api.ErrForm},
		// what comes first, from the front
		{"c3 81 05 83", api.ErrForm}, {"c3 83 81 05", api.ErrShort}, {"c4 c1 83 81 05", api.ErrShort}, {"c5 c2 81 05 83 61", api.ErrForm},
		{"c4 c2 81 05", api.ErrShort}, {"c4 81 05", api.ErrShort}, {"f8 05 81", api.ErrForm},
		// bytes behind
		{"80 80", api.ErrRest}, {"00 00", api.ErrRest}, {"c0 c0", api.ErrRest}, {"c0 00", api.ErrRest}, {"01 81", api.ErrRest}, {"83 61 62 63 64", api.ErrRest},
		{"c1 01 02", api.ErrRest}, {"7f ff", api.ErrRest}, {"c2 81 05 00", api.ErrForm}, {"c1 83 00", api.ErrShort}, {"81 05 05", api.ErrForm},
	} {
		b := fromHex(t, c.b)
		if c.should != api.OK {
			wantRefused(t, b, c.should)
		} else if _, e := rlp.Decode(b); e != api.OK {
			t.Errorf("Decode of %s: %d", c.b, e)
		}
	}
}

// tower is n lists within one another around a payload, whatever it is.
func tower(n int, payload []byte) []byte {
	for range n {
		head := []byte{byte(192 + len(payload))}
		if len(payload) > 55 {
			digits := fewest(len(payload))
			head = join([]byte{byte(247 + len(digits))}, digits)
		}
		payload = join(head, payload)
	}
	return payload
}

// P4.3: a list stands within at most 63 others; what is wrong with its head comes ahead of that.
func TestDecodeDeep(t *testing.T) {
	for n := 1; n <= 64; n++ {
		b := tower(n, []byte{0x83, 1, 2, 3})
		if x, e := rlp.Decode(b); e != api.OK || !alike(x, nest(n, api.Item{Bytes: []byte{1, 2, 3}})) {
			t.Errorf("%d lists: %d", n, e)
		}
		if x, e := rlp.Decode(tower(n, nil)); e != api.OK || !alike(x, nest(n-1, group())) {
			t.Errorf("%d lists, the last one empty: %d", n, e)
		}
	}
	for _, n := range []int{65, 66, 100, 1000} {
		wantRefused(t, tower(n, nil), api.ErrDeep)
		wantRefused(t, tower(n, []byte{1}), api.ErrDeep)
		wantRefused(t, append(tower(n, nil), 0), api.ErrDeep)
	}
	for _, c := range []struct {
		inner  string
		should api.Errno
	}{
		{"c0", api.ErrDeep}, {"c1 83", api.ErrDeep}, {"01 c0", api.ErrDeep}, {"c0 81 05", api.ErrDeep}, {"c0 83", api.ErrDeep},
		{"c1", api.ErrShort}, {"f8", api.ErrShort}, {"f8 05", api.ErrForm}, {"f8 38", api.ErrShort}, {"81 05 c0", api.ErrForm}, {"c1 c1", api.ErrDeep},
	} {
		wantRefused(t, tower(64, fromHex(t, c.inner)), c.should)
	}
	wantRefused(t, append(tower(64, []byte{0x81, 5}), 1), api.ErrForm)
	wantRefused(t, append(tower(64, []byte{5}), 1), api.ErrRest)
}

// P4.3: a list that is left is no longer one that others stand within.
func TestDecodeSideBySide(t *testing.T) {
	x := group(nest(63, words("a")), nest(62, group()), nest(63, words("c")))
	wantForm(t, "64 lists, side by side", x, form(x))
	y := group()
	for range 200 {
		y.Kids = append(y.Kids, group())
	}
	wantForm(t, "200 lists", y, form(y))
}

// wantModel holds Head, Decode and Each against the model.
func wantModel(t *testing.T, b []byte) api.Errno {
	t.Helper()
	should, e := decoded(b)
	x, got := rlp.Decode(b)
	if got != e || !alike(x, should) {
		t.Errorf("Decode of %s: %v, %d; not %v, %d", clip(b), x, got, should, e)
	}
	r := reader{b: b}
	for n, p := range rlp.Each(b) {
		list, from, to, e := r.head(len(b))
		if e != api.OK || p != (api.Piece{List: list, From: from, To: to}) {
			t.Errorf("Each of %s: %d: %v", clip(b), n, p)
			break
		}
		r.at = to
	}
	if _, _, _, e := r.head(len(b)); e == api.OK {
		t.Errorf("Each of %s ends at %d", clip(b), r.at)
	}
	r.at = 0
	list, from, to, e := r.head(len(b))
	if p, why := rlp.Head(b); why != e || p != (api.Piece{List: list, From: from, To: to}) {
		t.Errorf("Head of %s: %v, %d", clip(b), p, why)
	}
	return got
}

// P4.2, P4.3, P4.4: all bytes of at most two, and of three where the first one begins a list or a short text.
func TestAllShortBytes(t *testing.T) {
	wantModel(t, nil)
	for i := range 256 {
		wantModel(t, []byte{byte(i)})
		for j := range 256 {
			wantModel(t, []byte{byte(i), byte(j)})
		}
	}
	for _, first := range []byte{0x81, 0x82, 0xc1, 0xc2, 0xc3} {
		for i := range 256 {
			for j := range 256 {
				wantModel(t, []byte{first, byte(i), byte(j)})
			}
		}
	}
}

// P4.2, P4.3, P4.4: all runs of five bytes at which something turns.
func TestAllEdgyBytes(t *testing.T) {
	edges := []byte{0, 5, 0x38, 0x7f, 0x80, 0x81, 0x82, 0xb8, 0xb9, 0xc0, 0xc1, 0xc2, 0xc3, 0xc4, 0xf8}
	b := make([]byte, 5)
	var fill func(n int)
	fill = func(n int) {
		if n == len(b) {
			wantModel(t, b)
			return
		}
		for _, e := range edges {
			b[n] = e
			fill(n + 1)
		}
	}
	fill(0)
}

// P4.2, P4.3, P4.4: forms of any items in which a byte is changed, left out or put in; all errors come.
func TestSpoiledForms(t *testing.T) {
	s := source{at: 43}
	seen := map[api.Errno]int{}
	for range 40000 {
		b := form(s.item(5))
		at := s.below(len(b))
		switch s.below(4) {
		case 0:
			b = join(b[:at], []byte{byte(s.next())}, b[at+1:])
		case 1:
			b = join(b[:at], b[at+1:])
		case 2:
			b = join(b[:at], []byte{byte(s.next())}, b[at:])
		case 3:
			b = tower(s.below(10)+58, b)
		}
		seen[wantModel(t, b)]++
	}
	for _, e := range []api.Errno{api.OK, api.ErrShort, api.ErrForm, api.ErrRest, api.ErrDeep} {
		if seen[e] < 100 {
			t.Error(fmt.Sprint("too few of the error ", e, ": ", seen[e]))
		}
	}
}
