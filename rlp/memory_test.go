package rlp_test

import (
	"bytes"
	"testing"

	"cairn/api"
	"cairn/rlp"
)

// roomy is b with bytes behind its length, so that what is appended to it would be written there.
func roomy(b []byte) []byte {
	whole := join(b, bytes.Repeat([]byte{0xee}, 80))
	return whole[:len(b)]
}

// behindIs says whether what lies behind the length of roomy's bytes is still there.
func behindIs(b []byte) bool {
	return bytes.Equal(b[len(b):cap(b)][:80], bytes.Repeat([]byte{0xee}, 80))
}

// scribble overwrites all that an item holds, its room included.
func scribble(x api.Item) {
	whole := x.Bytes[:cap(x.Bytes)]
	for i := range whole {
		whole[i] = 0xdd
	}
	for _, kid := range x.Kids {
		scribble(kid)
	}
	kids := x.Kids[:cap(x.Kids)]
	for i := range kids {
		kids[i] = api.Item{List: 9}
	}
}

// clone is an item with memory of its own.
func clone(x api.Item) api.Item {
	y := api.Item{List: x.List, Bytes: append([]byte(nil), x.Bytes...)}
	for _, kid := range x.Kids {
		y.Kids = append(y.Kids, clone(kid))
	}
	return y
}

// thing is an item with texts and lists in it, some of them empty.
func thing() api.Item {
	return group(words("a"), group(words("bc"), group(words("d"), api.Item{Bytes: run(60)}), api.Item{}), group(), api.Item{Bytes: []byte{200}})
}

// P2: what makes items keeps nothing of its arguments, and changes nothing.
func TestItemsShareNothing(t *testing.T) {
	b := roomy([]byte("abc"))
	x := rlp.Text(b)
	scribble(x)
	if string(b) != "abc" || !behindIs(b) {
		t.Error("Text's answer is its argument")
	}
	x = rlp.Text(b)
	clear(b)
	if !alike(x, words("abc")) {
		t.Error("Text keeps its argument")
	}

	kids := append(make([]api.Item, 0, 9), thing(), words("z"), thing())
	x = rlp.List(kids...)
	scribble(x)
	if !alike(kids[0], thing()) || !alike(kids[1], words("z")) || kids[:4][3].List != 0 {
		t.Error("List's answer is its arguments")
	}
	x = rlp.List(kids...)
	scribble(group(kids...))
	if !alike(x, group(thing(), words("z"), thing())) {
		t.Error("List keeps its arguments")
	}

	y := thing()
	x = rlp.List(y, y)
	scribble(x.Kids[0])
	if !alike(x.Kids[1], thing()) {
		t.Error("kids that were one share memory")
	}

	x = rlp.Number(0x010203)
	scribble(x)
	if !alike(rlp.Number(0x010203), api.Item{Bytes: []byte{1, 2, 3}}) {
		t.Error("Number's answers share memory")
	}
}

// P2: so does what reads items.
func TestReadingItemsSharesNothing(t *testing.T) {
	x := api.Item{Bytes: roomy([]byte("abc"))}
	b, _ := rlp.AsBytes(x, 0, 3)
	scribble(api.Item{Bytes: b})
	if !alike(x, words("abc")) || !behindIs(x.Bytes) {
		t.Error("AsBytes' answer is its argument's")
	}

	y := thing()
	kids, _ := rlp.AsList(y, 0, 9)
	scribble(group(kids...))
	if !alike(y, thing()) {
		t.Error("AsList's answer is its argument's")
	}
	kids, _ = rlp.AsList(y, 0, 9)
	scribble(y)
	if !alike(group(kids...), thing()) {
		t.Error("AsList keeps its argument")
	}

	same := thing()
	kids, _ = rlp.AsList(group(same, same), 2, 2)
	scribble(kids[0])
	if !alike(kids[1], thing()) {
		t.Error("AsList's kids share memory")
	}
}

// P2: forms and items have memory of their own, both ways.
func TestFormsShareNothing(t *testing.T) {
	for _, x := range []api.Item{words("a"), words("dog"), {Bytes: run(60)}, thing()} {
		kept := clone(x)
		b, _ := rlp.Encode(x)
		should := append([]byte(nil), b...)
		scribble(api.Item{Bytes: b})
		if !alike(x, kept) {
			t.Error("Encode's answer is its argument's")
		}
		again, _ := rlp.Encode(x)
		scribble(x)
		if !bytes.Equal(again, should) {
			t.Error("Encode keeps its argument")
		}

		form := roomy(should)
		y, _ := rlp.Decode(form)
		scribble(y)
		if !bytes.Equal(form, should) || !behindIs(form) {
			t.Error("Decode's answer is its argument")
		}
		y, _ = rlp.Decode(form)
		clear(form)
		if !alike(y, kept) {
			t.Error("Decode keeps its argument")
		}
	}
}

// P2: an item's texts and lists share no memory with one another, their room included.
func TestDecodedPartsShareNothing(t *testing.T) {
	b, _ := rlp.Encode(thing())
	for i := range thing().Kids {
		x, _ := rlp.Decode(b)
		scribble(x.Kids[i])
		for j, kid := range x.Kids {
			if j != i && !alike(kid, thing().Kids[j]) {
				t.Errorf("%d and %d", i, j)
			}
		}
	}
}

// P2
func TestEnvelopesShareNothing(t *testing.T) {
	b := roomy([]byte("abc"))
	envelope, _ := rlp.Envelope(1, b)
	scribble(api.Item{Bytes: envelope})
	if string(b) != "abc" || !behindIs(b) {
		t.Error("Envelope's answer is its argument")
	}
	for _, first := range []byte{1, 0xc1} {
		b := roomy([]byte{first, 7})
		_, payload, _ := rlp.Open(b)
		kept := append([]byte(nil), payload...)
		scribble(api.Item{Bytes: payload})
		if !bytes.Equal(b, []byte{first, 7}) || !behindIs(b) {
			t.Error("Open's answer is its argument")
		}
		_, payload, _ = rlp.Open(b)
		clear(b)
		if !bytes.Equal(payload, kept) {
			t.Error("Open keeps its argument")
		}
	}
}

// P2: what lies behind a list's length is not read: neither bytes that would end a piece, nor kids that may not be.
func TestNothingBehindIsRead(t *testing.T) {
	for _, full := range [][]byte{{0x83, 1, 2, 3}, {0xc2, 0x81, 0x85}, join([]byte{0xb8, 56}, run(56)), {0x81, 5}} {
		for n := range full {
			short := full[:n]
			if _, e := rlp.Head(short); e != api.ErrShort {
				t.Errorf("Head of %x: %d", short, e)
			}
			wantRefused(t, short, api.ErrShort)
			for range rlp.Each(short) {
				t.Errorf("Each of %x", short)
			}
		}
	}
	kids := []api.Item{words("a"), {List: 2}, words("c")}
	x, y := group(kids[:1]...), group(words("a"))
	if b, e := rlp.Encode(x); e != api.OK || !bytes.Equal(b, []byte{0xc1, 'a'}) {
		t.Errorf("%x, %d", b, e)
	}
	if !rlp.Same(x, y) {
		t.Error("Same")
	}
	if text := (api.Item{Kids: kids[:0]}); second(rlp.Size(text)) != api.OK {
		t.Error("a text with room for kids")
	}
	if list := (api.Item{List: 1, Bytes: []byte("a")[:0]}); second(rlp.Size(list)) != api.OK {
		t.Error("a list with room for bytes")
	}
	if _, _, e := rlp.Open([]byte{1}[:0]); e != api.ErrShort {
		t.Error("Open")
	}
}

// P3: nil and empty are the same.
func TestNilIsEmpty(t *testing.T) {
	empty := []api.Item{{Bytes: []byte{}}, {Kids: []api.Item{}}, {Bytes: []byte{}, Kids: []api.Item{}}}
	for _, x := range empty {
		if !rlp.Same(x, api.Item{}) || !rlp.Same(group(x), group(api.Item{})) {
			t.Error("Same")
		}
		wantForm(t, "the empty text", x, []byte{0x80})
		x.List = 1
		if !rlp.Same(x, group()) {
			t.Error("Same of lists")
		}
		wantForm(t, "the empty list", x, []byte{0xc0})
		if kids, e := rlp.AsList(x, 0, 0); e != api.OK || len(kids) != 0 {
			t.Error("AsList")
		}
	}
	wantNoHead(t, []byte{}, api.ErrShort)
	for _, b := range [][]byte{nil, {}} {
		if n, e := rlp.AsNumber(api.Item{Bytes: b}); e != api.OK || n != 0 {
			t.Error("AsNumber")
		}
		if w, e := rlp.AsWhole(api.Item{Bytes: b}); e != api.OK || w != (api.Word{}) {
			t.Error("AsWhole")
		}
		if got, e := rlp.AsBytes(api.Item{Bytes: b}, 0, 0); e != api.OK || len(got) != 0 {
			t.Error("AsBytes")
		}
		if got, e := rlp.Envelope(0, b); e != api.OK || !bytes.Equal(got, []byte{0}) {
			t.Error("Envelope")
		}
		if _, _, e := rlp.Open(b); e != api.ErrShort {
			t.Error("Open")
		}
		if !rlp.Same(rlp.Text(b), api.Item{}) {
			t.Error("Text")
		}
		for range rlp.Each(b) {
			t.Error("Each")
		}
	}
}
