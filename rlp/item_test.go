package rlp_test

import (
	"bytes"
	"fmt"
	"math"
	"math/big"
	"testing"

	"cairn/api"
	"cairn/rlp"
)

// P4.5
func TestText(t *testing.T) {
	for _, n := range []int{0, 1, 2, 55, 56, 256, 65536} {
		x := rlp.Text(run(n))
		if x.List != 0 || !bytes.Equal(x.Bytes, run(n)) || len(x.Kids) != 0 {
			t.Errorf("%d bytes", n)
		}
	}
	if x := rlp.Text([]byte{0, 0}); !bytes.Equal(x.Bytes, []byte{0, 0}) {
		t.Errorf("noughts: %v", x)
	}
}

// P4.5
func TestList(t *testing.T) {
	a, b := words("a"), group(words("b"))
	for _, kids := range [][]api.Item{nil, {}, {a}, {a, b}, {b, a}, {a, a, b, b, a}, {{List: 7, Bytes: []byte("x"), Kids: []api.Item{a}}}} {
		if x := rlp.List(kids...); !alike(x, api.Item{List: 1, Kids: kids}) {
			t.Errorf("%v: %v", kids, x)
		}
	}
	if x := rlp.List(a, b); x.List != 1 || len(x.Bytes) != 0 || len(x.Kids) != 2 || !alike(x.Kids[0], a) || !alike(x.Kids[1], b) {
		t.Errorf("%v", x)
	}
}

// wholes are words at which the count of their bytes turns, and others.
func wholes() []api.Word {
	l := []api.Word{{}, {1}, {15}, {127}, {128}, {1024}, {math.MaxUint64}, {0, 1}, {0, 0, 1}, {0, 0, 0, 1},
		{math.MaxUint64, math.MaxUint64, math.MaxUint64, math.MaxUint64}, {0, 0, 0, 1 << 63}}
	for n := range 256 {
		for _, less := range []uint64{0, 1} {
			x := new(big.Int).Lsh(big.NewInt(1), uint(n))
			l = append(l, wordOf(x.Sub(x, new(big.Int).SetUint64(less))))
		}
	}
	s := source{at: 45}
	for n := range 2000 {
		x := api.Word{s.next(), s.next(), s.next(), s.next()}
		for i := range x {
			if i > n%5 {
				x[i] = 0
			}
		}
		l = append(l, x)
	}
	return l
}

func wordOf(n *big.Int) api.Word {
	var x api.Word
	for i := range x {
		x[i] = new(big.Int).Rsh(n, uint(64*i)).Uint64()
	}
	return x
}

func numberOf(x api.Word) *big.Int {
	n := new(big.Int)
	for i := range x {
		n.Add(n, new(big.Int).Lsh(new(big.Int).SetUint64(x[i]), uint(64*i)))
	}
	return n
}

// P4.5, P4.6, P4.13: the bytes are those of the number, and lead back to it.
func TestNumbers(t *testing.T) {
	for _, x := range wholes() {
		whole := rlp.Whole(x)
		if whole.List != 0 || len(whole.Kids) != 0 || !bytes.Equal(whole.Bytes, numberOf(x).Bytes()) {
			t.Fatalf("Whole(%x): %v", x, whole)
		}
		if y, e := rlp.AsWhole(whole); e != api.OK || y != x {
			t.Fatalf("AsWhole of %v: %x, %d", whole, y, e)
		}
		n, e := rlp.AsNumber(whole)
		if small := x == (api.Word{x[0]}); small && (e != api.OK || n != x[0]) || !small && (e != api.ErrSize || n != 0) {
			t.Fatalf("AsNumber of %v: %d, %d", whole, n, e)
		}
		number := rlp.Number(x[0])
		if number.List != 0 || len(number.Kids) != 0 || !bytes.Equal(number.Bytes, new(big.Int).SetUint64(x[0]).Bytes()) {
			t.Fatalf("Number(%d): %v", x[0], number)
		}
		if n, e := rlp.AsNumber(number); e != api.OK || n != x[0] {
			t.Fatalf("AsNumber of %v: %d, %d", number, n, e)
		}
	}
}

// P4.6: the errors of numbers, in their order.
func TestNoNumbers(t *testing.T) {
	kids := []api.Item{words("a")}
	for _, c := range []struct {
		x             api.Item
		number, whole api.Errno
	}{
		{api.Item{}, api.OK, api.OK},
		{api.Item{Bytes: []byte{0}}, api.ErrForm, api.ErrForm},
		{api.Item{Bytes: []byte{0, 1}}, api.ErrForm, api.ErrForm},
		{api.Item{Bytes: []byte{1, 0}}, api.OK, api.OK},
		{api.Item{Bytes: run(8)}, api.OK, api.OK},
		{api.Item{Bytes: make([]byte, 8)}, api.ErrForm, api.ErrForm},
		{api.Item{Bytes: run(9)}, api.ErrSize, api.OK},
		{api.Item{Bytes: make([]byte, 9)}, api.ErrSize, api.ErrForm},
		{api.Item{Bytes: run(32)}, api.ErrSize, api.OK},
		{api.Item{Bytes: make([]byte, 32)}, api.ErrSize, api.ErrForm},
		{api.Item{Bytes: run(33)}, api.ErrSize, api.ErrSize},
		{api.Item{Bytes: make([]byte, 33)}, api.ErrSize, api.ErrSize},
		{api.Item{Bytes: run(70000)}, api.ErrSize, api.ErrSize},
		{api.Item{List: 1}, api.ErrKind, api.ErrKind},
		{api.Item{List: 1, Bytes: run(33)}, api.ErrKind, api.ErrKind},
		{api.Item{List: 1, Bytes: []byte{0}}, api.ErrKind, api.ErrKind},
		{api.Item{List: 1, Kids: kids}, api.ErrKind, api.ErrKind},
		{api.Item{List: 2, Bytes: []byte{5}}, api.ErrKind, api.ErrKind},
		{api.Item{List: -1, Bytes: []byte{5}}, api.ErrKind, api.ErrKind},
		{api.Item{Bytes: []byte{5}, Kids: kids}, api.OK, api.OK},
	} {
		n, e := rlp.AsNumber(c.x)
		if e != c.number || e == api.OK && n != new(big.Int).SetBytes(c.x.Bytes).Uint64() || e != api.OK && n != 0 {
			t.Errorf("AsNumber(%s): %d, %d", clip(c.x.Bytes), n, e)
		}
		w, e := rlp.AsWhole(c.x)
		if e != c.whole || e == api.OK && w != wordOf(new(big.Int).SetBytes(c.x.Bytes)) || e != api.OK && w != (api.Word{}) {
			t.Errorf("AsWhole(%s): %x, %d", clip(c.x.Bytes), w, e)
		}
	}
}

// P4.13: AsWhole takes all that AsNumber takes, and tells the same; what both take is what Number makes.
func TestWholeTakesWhatNumberTakes(t *testing.T) {
	s := source{at: 46}
	taken := 0
	for range 20000 {
		b := make([]byte, s.below(11))
		for i := range b {
			b[i] = byte(s.next()) & byte(s.next()) & byte(s.next())
		}
		x := api.Item{List: s.below(20) / 19, Bytes: b}
		n, e := rlp.AsNumber(x)
		if e != api.OK {
			continue
		}
		taken++
		if w, e := rlp.AsWhole(x); e != api.OK || w != (api.Word{n}) || !alike(rlp.Number(n), x) {
			t.Fatalf("%v: %d; %x, %d", x, n, w, e)
		}
	}
	if taken < 5000 {
		t.Errorf("%d taken alone", taken)
	}
}

// bounds are least and most around n, and whether n lies between them.
func bounds(n int) (l []struct {
	least, most int
	ok          bool
}) {
	places := []int{math.MinInt, -1, 0, n - 1, n, n + 1, math.MaxInt}
	for _, least := range places {
		for _, most := range places {
			l = append(l, struct {
				least, most int
				ok          bool
			}{least, most, least <= n && n <= most})
		}
	}
	return l
}

// P4.6: least and most, on both sides.
func TestAsBytes(t *testing.T) {
	for _, n := range []int{0, 1, 2, 20, 32, 300} {
		for _, c := range bounds(n) {
			b, e := rlp.AsBytes(api.Item{Bytes: run(n)}, c.least, c.most)
			if c.ok && (e != api.OK || !bytes.Equal(b, run(n))) || !c.ok && (e != api.ErrSize || b != nil) {
				t.Errorf("%d bytes, %d to %d: %s, %d", n, c.least, c.most, clip(b), e)
			}
			for _, list := range []int{1, 2, -1} {
				if b, e := rlp.AsBytes(api.Item{List: list, Bytes: run(n)}, c.least, c.most); e != api.ErrKind || b != nil {
					t.Errorf("List %d, %d to %d: %x, %d", list, c.least, c.most, b, e)
				}
			}
		}
	}
	if b, e := rlp.AsBytes(api.Item{Bytes: []byte{0, 0}, Kids: []api.Item{{}}}, 2, 2); e != api.OK || !bytes.Equal(b, []byte{0, 0}) {
		t.Errorf("a text with kids: %x, %d", b, e)
	}
}

// P4.6: least and most, on both sides.
func TestAsList(t *testing.T) {
	for _, n := range []int{0, 1, 2, 9, 17} {
		x := group()
		for i := range n {
			x.Kids = append(x.Kids, group(api.Item{Bytes: run(i)}), words("z"))
		}
		for _, c := range bounds(2 * n) {
			kids, e := rlp.AsList(x, c.least, c.most)
			if c.ok && (e != api.OK || !alike(group(kids...), x)) || !c.ok && (e != api.ErrSize || kids != nil) {
				t.Errorf("%d kids, %d to %d: %v, %d", 2*n, c.least, c.most, kids, e)
			}
			for _, list := range []int{0, 2, -1} {
				if kids, e := rlp.AsList(api.Item{List: list, Kids: x.Kids}, c.least, c.most); e != api.ErrKind || kids != nil {
					t.Errorf("List %d, %d to %d: %v, %d", list, c.least, c.most, kids, e)
				}
			}
		}
	}
	if kids, e := rlp.AsList(api.Item{List: 1, Bytes: []byte("a"), Kids: []api.Item{{}}}, 1, 1); e != api.OK || len(kids) != 1 {
		t.Errorf("a list with bytes: %v, %d", kids, e)
	}
}

// variants are items that differ in one thing each, be it within, and some that may not be.
func variants() []api.Item {
	a, b := words("a"), words("b")
	return []api.Item{
		{}, a, b, words("ab"), words("a\x00"), {Bytes: []byte{0}}, {Bytes: []byte{0, 0}}, {List: 1}, {List: 2}, {List: -1}, {List: 1, Bytes: []byte("a")},
		group(a), group(b), group(a, b), group(b, a), group(a, a), group(a, b, b), group(group()), group(group(a)), group(group(a), b),
		group(a, group(b)), group(group(a, b)), group(group(), group()), group(group(group())), group(api.Item{}), group(api.Item{}, api.Item{}),
		{Kids: []api.Item{a}}, {Bytes: []byte("a"), Kids: []api.Item{a}}, {List: 2, Kids: []api.Item{a}}, group(api.Item{List: 2}),
		group(api.Item{List: 1, Bytes: []byte("a")}), group(api.Item{Kids: []api.Item{a}}), {Bytes: run(300)}, {Bytes: run(301)},
	}
}

// P4.8
func TestSame(t *testing.T) {
	again := variants()
	for i, x := range variants() {
		for j, y := range again {
			if rlp.Same(x, y) != (i == j) {
				t.Errorf("%v and %v", x, y)
			}
			if rlp.Same(group(words("0"), x, words("1")), group(words("0"), y, words("1"))) != (i == j) {
				t.Errorf("within a list: %v and %v", x, y)
			}
		}
	}
}

// P4.8, P1: items that are too deep for a form have their likes, too.
func TestSameOfDeepItems(t *testing.T) {
	x, y := nest(1<<16, words("a")), nest(1<<16, words("a"))
	if !rlp.Same(x, y) || rlp.Same(x, nest(1<<16, words("b"))) || rlp.Same(x, nest(1<<16-1, words("a"))) {
		t.Error("2^16 lists")
	}
	if !rlp.Same(rlp.List(x), nest(1<<16+1, words("a"))) {
		t.Error("List of them")
	}
	kids, e := rlp.AsList(x, 1, 1)
	if e != api.OK || !rlp.Same(group(kids...), y) {
		t.Error("AsList of them")
	}
	for name, e := range map[string]api.Errno{"Encode": second(rlp.Encode(x)), "Size": second(rlp.Size(x))} {
		if e != api.ErrDeep {
			t.Error(fmt.Sprint(name, " of them: ", e))
		}
	}
}

// second is a call's error.
func second[T any](_ T, e api.Errno) api.Errno { return e }
