package state_test

import (
	"testing"

	"cairn/api"
	"cairn/state"
)

// overlaid is a base by the words of P13.3, as slow as can be.
type overlaid struct {
	b state.Base
	l []api.Change
}

func (o overlaid) last(a api.Address) (c api.Change, is bool) {
	for _, x := range o.l {
		if x.Address == a {
			c, is = x, true
		}
	}
	return c, is
}

func (o overlaid) Account(a api.Address) (api.Account, bool) {
	c, is := o.last(a)
	if !is {
		return o.b.Account(a)
	}
	if c.Gone {
		return api.Account{}, false
	}
	return api.Account{Address: a, Nonce: c.Nonce, Balance: c.Balance, Code: c.Code}, true
}

func (o overlaid) Slot(a api.Address, key api.Word) api.Word {
	c, is := o.last(a)
	if !is {
		return o.b.Slot(a, key)
	}
	if c.Gone {
		return api.Word{}
	}
	for i := len(c.Slots) - 1; i >= 0; i-- {
		if c.Slots[i].Key == key {
			return c.Slots[i].Value
		}
	}
	if _, is := o.b.Account(a); c.Wiped || !is {
		return api.Word{}
	}
	return o.b.Slot(a, key)
}

func TestOver(t *testing.T) { // P13.3
	gone := api.Change{Address: address(0), Gone: true}
	plain := api.Change{Address: address(0), Nonce: 7, Balance: w(70), Code: []byte("new")}
	wiped := api.Change{Address: address(0), Wiped: true, Slots: []api.Slot{slot(2, 5), slot(0, 6)}}
	slots := api.Change{Address: address(0), Slots: []api.Slot{slot(2, 5), slot(1, 0), slot(4, 9)}}
	first := account(0, 0, 0, "")
	for what, x := range map[string]struct {
		l    []api.Change
		want []api.Account // of the address 0; none: there is none
	}{
		"nothing":                   {nil, some()[:1]},
		"of another":                {[]api.Change{{Address: address(5), Gone: true}}, some()[:1]},
		"gone":                      {[]api.Change{gone}, nil},
		"gone with all else":        {[]api.Change{{Address: address(0), Gone: true, Nonce: 1, Balance: w(1), Code: []byte("c"), Wiped: true, Slots: []api.Slot{slot(1, 1)}}}, nil},
		"plain":                     {[]api.Change{plain}, []api.Account{account(0, 7, 70, "new", some()[0].Slots...)}},
		"wiped":                     {[]api.Change{wiped}, []api.Account{account(0, 0, 0, "", slot(0, 6), slot(2, 5))}},
		"slots":                     {[]api.Change{slots}, []api.Account{account(0, 0, 0, "", slot(2, 5), slot(4, 9), slot(6, 16))}},
		"gone at last":              {[]api.Change{plain, slots, gone}, nil},
		"gone ahead":                {[]api.Change{gone, plain}, []api.Account{account(0, 7, 70, "new", some()[0].Slots...)}},
		"wiped ahead":               {[]api.Change{wiped, plain}, []api.Account{account(0, 7, 70, "new", some()[0].Slots...)}},
		"slots ahead":               {[]api.Change{slots, plain}, []api.Account{account(0, 7, 70, "new", some()[0].Slots...)}},
		"several slots of one key":  {[]api.Change{{Address: address(0), Slots: []api.Slot{slot(1, 1), slot(2, 2), slot(1, 3), slot(2, 0)}}}, []api.Account{account(0, 0, 0, "", slot(1, 3), slot(6, 16))}},
		"with other ones around it": {[]api.Change{{Address: address(4)}, plain, {Address: address(5)}}, []api.Account{account(0, 7, 70, "new", some()[0].Slots...)}},
		"empty":                     {[]api.Change{change(first)}, []api.Account{account(0, 0, 0, "", some()[0].Slots...)}},
	} {
		for kind, b := range bases(some()[:1]) {
			b := state.Over(b, x.l)
			for _, a := range []api.Address{address(0), address(1)} {
				got, is := b.Account(a)
				want, should := foreign(x.want).telling().Account(a)
				if is != should {
					t.Errorf("%s, over %s: %x is there: %v", what, kind, a, is)
				}
				wantText(t, what+", over "+kind, accountText(got), accountText(want))
				for _, k := range keys() {
					wantWord(t, what+", over "+kind, b.Slot(a, k), foreign(x.want).Slot(a, k))
				}
			}
		}
	}
}

func TestOverOfAnAccountThatTheBaseDoesNotTell(t *testing.T) { // P13.3: any other slot is 0, whatever the base says
	c := api.Change{Address: address(0), Nonce: 1, Slots: []api.Slot{slot(2, 5)}}
	want := alloc([]api.Account{account(0, 1, 0, "", slot(2, 5))})
	for what, b := range map[string]state.Base{
		"nothing": nil, "others": alloc(some()[1:]), "one that is gone": state.Over(alloc(some()), []api.Change{{Address: address(0), Gone: true}}), "one that lies": slotty{},
	} {
		got := state.Over(b, []api.Change{c})
		for _, k := range keys() {
			wantWord(t, what, got.Slot(address(0), k), want.Slot(address(0), k))
		}
		if x, is := got.Account(address(0)); !is || x.Nonce != 1 {
			t.Errorf("%s: %v, %v", what, x, is)
		}
	}
	// An account that is empty is there, so that its slots are.
	b := state.Over(alloc(some()), []api.Change{{Address: address(3), Nonce: 1}})
	wantWord(t, "an empty account's", b.Slot(address(3), key(1)), w(31))
}

func TestOverByItsWords(t *testing.T) { // P13.3
	r := row(3)
	for range 150 {
		l := r.accounts()
		changes := append(r.changes(), r.changes()...) // also several of one address
		for i, c := range changes {
			changes[i].Slots = append(c.Slots, r.slots(true)...) // also several of one key
		}
		for what, b := range bases(l) {
			before := baseText(b)
			wantBase(t, what, state.Over(b, changes), overlaid{state.Over(b, nil), changes})
			wantText(t, what+": the base", baseText(b), before)
		}
	}
}

func TestManyLayers(t *testing.T) { // P13.3, THE BOUND: layers over layers
	b := alloc(some())
	for i := range 3000 {
		b = state.Over(b, []api.Change{{Address: address(i % 2), Nonce: uint64(i), Slots: []api.Slot{{Key: w(uint64(i)), Value: w(1)}}}})
	}
	if x, is := b.Account(address(1)); !is || x.Nonce != 2999 {
		t.Errorf("%v, %v", x, is)
	}
	wantWord(t, "the lowest", b.Slot(address(0), key(2)), w(12))
	wantWord(t, "the first layer's", b.Slot(address(0), w(0)), w(1))
	wantWord(t, "the other one's", b.Slot(address(1), w(0)), w(0))
	x, is := b.Account(address(3))
	wantText(t, "the lowest", accountText(x), accountText(account(3, 0, 0, "")))
	wantTrue(t, "the lowest is there", is)
}
