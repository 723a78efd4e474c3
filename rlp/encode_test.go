package rlp_test

import (
	"fmt"
	"testing"

	"cairn/api"
	"cairn/rlp"
)

// P4.1: texts at all lengths at which the form turns.
func TestFormsOfTexts(t *testing.T) {
	for _, c := range []struct {
		long int
		head string
	}{
		{0, "80"}, {2, "82"}, {3, "83"}, {54, "b6"}, {55, "b7"}, {56, "b838"}, {57, "b839"}, {255, "b8ff"}, {256, "b90100"}, {257, "b90101"},
		{65535, "b9ffff"}, {65536, "ba010000"}, {65537, "ba010001"}, {1<<24 - 1, "baffffff"}, {1 << 24, "bb01000000"},
	} {
		wantForm(t, fmt.Sprint(c.long, " bytes"), api.Item{Bytes: run(c.long)}, join(fromHex(t, c.head), run(c.long)))
		noughts := make([]byte, c.long)
		wantForm(t, fmt.Sprint(c.long, " noughts"), api.Item{Bytes: noughts}, join(fromHex(t, c.head), noughts))
	}
}

// P4.1: a text of one byte is that byte below 128, and has 129 ahead from there on.
func TestFormsOfOneByte(t *testing.T) {
	for b := range 256 {
		should := []byte{byte(b)}
		if b >= 128 {
			should = []byte{129, byte(b)}
		}
		wantForm(t, fmt.Sprint("the byte ", b), api.Item{Bytes: []byte{byte(b)}}, should)
	}
}

// P4.1: lists at all lengths of the payload at which the form turns, of one text each (but one that is a byte of itself) or many.
func TestFormsOfLists(t *testing.T) {
	for _, c := range []struct {
		payload int
		head    string
	}{
		{1, "c1"}, {2, "c2"}, {54, "f6"}, {55, "f7"}, {56, "f838"}, {57, "f839"}, {255, "f8ff"}, {256, "f90100"}, {257, "f90101"},
		{65535, "f9ffff"}, {65536, "fa010000"}, {65537, "fa010001"},
	} {
		single := make([]api.Item, c.payload)
		for i := range single {
			single[i] = api.Item{Bytes: []byte{byte(i % 128)}}
		}
		should := fromHex(t, c.head)
		for i := range c.payload {
			should = append(should, byte(i%128))
		}
		wantForm(t, fmt.Sprint(c.payload, " bytes"), group(single...), should)

		empty := make([]api.Item, c.payload)
		for i := range empty {
			empty[i] = api.Item{List: i % 2}
		}
		should = fromHex(t, c.head)
		for i := range c.payload {
			should = append(should, byte(128+64*(i%2)))
		}
		wantForm(t, fmt.Sprint(c.payload, " empty ones"), group(empty...), should)
	}
	wantForm(t, "the empty list", group(), []byte{0xc0})
	wantForm(t, "a list of 54 bytes", group(api.Item{Bytes: run(54)}), join([]byte{0xf7, 0xb6}, run(54)))
	wantForm(t, "a list of 55 bytes", group(api.Item{Bytes: run(55)}), join([]byte{0xf8, 56, 0xb7}, run(55)))
	wantForm(t, "a list of 253 bytes", group(api.Item{Bytes: run(253)}), join([]byte{0xf8, 255, 0xb8, 253}, run(253)))
	wantForm(t, "a list of 254 bytes", group(api.Item{Bytes: run(254)}), join([]byte{0xf9, 1, 0, 0xb8, 254}, run(254)))
}

// P4.1: forms that are known elsewhere.
func TestFormsKnownElsewhere(t *testing.T) {
	lorem := "Lorem ipsum dolor sit amet, consectetur adipisicing elit"
	none := group()
	for _, c := range []struct {
		x    api.Item
		form string
	}{
		{words(lorem), "b838" + fmt.Sprintf("%x", lorem)},
		{group(none, group(none), group(none, group(none))), "c7c0c1c0c3c0c1c0"},
		{group(group(none, none), none), "c4c2c0c0c0"},
		{group(words("asdf"), words("qwer"), words("zxcv")), "cf84617364668471776572847a786376"},
		{group(words("zw"), group(api.Item{Bytes: []byte{4}}), api.Item{Bytes: []byte{1}}), "c6827a77c10401"},
	} {
		wantForm(t, c.form, c.x, fromHex(t, c.form))
	}
}

// P4.1: a list's head comes ahead of its kids', whatever they are.
func TestFormsOfAnyItems(t *testing.T) {
	s := source{at: 41}
	for i := range 3000 {
		x := s.item(6)
		wantForm(t, fmt.Sprint("item ", i), x, form(x))
	}
}

// P4.1: 64 lists stand within one another, 65 don't.
func TestDeepItems(t *testing.T) {
	for _, n := range []int{1, 2, 63, 64} {
		for _, x := range []api.Item{words("a"), {}, {Bytes: run(300)}} {
			wantForm(t, fmt.Sprint(n, " lists"), nest(n, x), form(nest(n, x)))
		}
		wantForm(t, fmt.Sprint(n, " lists, the last one empty"), nest(n-1, group()), form(nest(n-1, group())))
	}
	for _, n := range []int{65, 66, 1000} {
		wantNoForm(t, fmt.Sprint(n, " lists"), nest(n, words("a")), api.ErrDeep)
		wantNoForm(t, fmt.Sprint(n, " lists, the last one empty"), nest(n-1, group()), api.ErrDeep)
	}
	beside := group(nest(63, words("a")), nest(63, words("b")), nest(62, group()))
	wantForm(t, "64 lists, side by side", beside, form(beside))
	wantNoForm(t, "65 lists, at last", group(nest(63, words("a")), nest(64, words("b"))), api.ErrDeep)
}

// P4.1: items that may not be.
func TestNoItems(t *testing.T) {
	kid := []api.Item{words("a")}
	for _, x := range []api.Item{
		{List: 2}, {List: -1}, {List: 1 << 40}, {List: -1 << 63}, {List: 3, Bytes: []byte("a")}, {List: 2, Kids: kid},
		{Kids: kid}, {Bytes: []byte("a"), Kids: kid}, {Kids: []api.Item{{}}},
		{List: 1, Bytes: []byte("a")}, {List: 1, Bytes: []byte{0}, Kids: kid}, {List: 1, Bytes: run(60)},
	} {
		wantNoForm(t, fmt.Sprint(x), x, api.ErrItem)
		wantNoForm(t, fmt.Sprint("a kid: ", x), group(x), api.ErrItem)
		wantNoForm(t, fmt.Sprint("the last kid: ", x), group(words("a"), group(words("b")), x), api.ErrItem)
		wantNoForm(t, fmt.Sprint("the first kid: ", x), group(x, words("a")), api.ErrItem)
		wantNoForm(t, fmt.Sprint("within 64: ", x), nest(63, group(words("a"), x)), api.ErrItem+whichDeep(x))
	}
}

// whichDeep is what ErrDeep is above ErrItem, for a list.
func whichDeep(x api.Item) api.Errno {
	if x.List == 1 {
		return api.ErrDeep - api.ErrItem
	}
	return 0
}

// P4.1, P4: the first that applies, going through the item from the front, each list ahead of its kids; of one item ErrDeep first.
func TestWhichErrorComesFirst(t *testing.T) {
	bad := api.Item{List: 2}
	deep := nest(65, words("a"))
	badList := func(kids ...api.Item) api.Item { return api.Item{List: 1, Bytes: []byte("a"), Kids: kids} }
	for _, c := range []struct {
		name   string
		x      api.Item
		should api.Errno
	}{
		{"bad, then deep", group(bad, deep), api.ErrItem},
		{"deep, then bad", group(deep, bad), api.ErrDeep},
		{"a bad list around a deep one", badList(deep), api.ErrItem},
		{"a bad one around a deep one", api.Item{List: 2, Kids: []api.Item{deep}}, api.ErrItem},
		{"a text around a deep one", api.Item{Kids: []api.Item{deep}}, api.ErrItem},
		{"bad ones in the deepest list that may be", nest(63, group(bad, group())), api.ErrItem},
		{"the list that is too deep, ahead of a bad one", nest(63, group(group(), bad)), api.ErrDeep},
		{"a list that is both", nest(64, badList()), api.ErrDeep},
		{"a list that is bad alone", nest(63, badList()), api.ErrItem},
		{"a list that is too deep, with a bad kid", nest(64, group(bad)), api.ErrDeep},
		{"a bad list half way", nest(30, badList(nest(60, bad))), api.ErrItem},
		{"no list at all, within 64", nest(64, bad), api.ErrItem},
		{"a text with kids, within 64", nest(64, api.Item{Kids: []api.Item{group()}}), api.ErrItem},
	} {
		wantNoForm(t, c.name, c.x, c.should)
	}
}

// P4.1: any items, most of which may not be.
func TestAnyErrors(t *testing.T) {
	s := source{at: 42}
	seen := map[api.Errno]int{}
	for i := range 20000 {
		x := s.anyItem(s.below(3) + 63)
		e := whyNot(x, 0)
		seen[e]++
		if e != api.OK {
			wantNoForm(t, fmt.Sprint("item ", i), x, e)
		} else if n, got := rlp.Size(x); got != api.OK || n != len(form(x)) {
			t.Errorf("item %d: Size: %d, %d", i, n, got)
		}
	}
	for _, e := range []api.Errno{api.OK, api.ErrItem, api.ErrDeep} {
		if seen[e] < 1000 {
			t.Errorf("%d came %d times alone", e, seen[e])
		}
	}
}

// anyItem is a chain of so many lists with things beside it, seldom ones that may not be.
func (s *source) anyItem(more int) api.Item {
	x := group()
	if s.below(200) == 0 {
		x = api.Item{List: s.below(4), Bytes: run(s.below(2))}
	}
	if s.below(4) == 0 {
		x.Kids = append(x.Kids, s.text())
	}
	if more > 1 {
		x.Kids = append(x.Kids, s.anyItem(more-1))
	}
	if s.below(100) == 0 {
		x.Kids = append(x.Kids, api.Item{List: s.below(3), Bytes: run(s.below(2))})
	}
	return x
}
