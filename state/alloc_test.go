package state_test

import (
	"testing"

	"cairn/api"
	"cairn/state"
)

func TestAlloc(t *testing.T) { // P13.2
	b, e := state.Alloc(some())
	wantErrno(t, "Alloc", e, api.OK)
	for i, a := range addresses() {
		x, is := b.Account(a)
		want := api.Account{}
		if i < len(some()) {
			want = some()[i]
			want.Slots = nil
		}
		if is != (i < len(some())) {
			t.Errorf("%x: %v", a, is)
		}
		wantText(t, "an account", accountText(x), accountText(want))
		for _, k := range keys() {
			wantWord(t, "a slot", b.Slot(a, k), foreign(some()).Slot(a, k))
		}
	}
	wantWord(t, "a slot", b.Slot(address(0), key(6)), w(16))
	wantWord(t, "another one's", b.Slot(address(1), key(6)), w(0))
}

func TestAllocInAnyOrder(t *testing.T) { // P13.2
	r := row(1)
	for range 100 {
		l := r.accounts()
		want := alloc(l)
		for i := range l {
			l[i].Slots = shuffled(&r, l[i].Slots)
		}
		b, e := state.Alloc(shuffled(&r, l))
		wantErrno(t, "Alloc", e, api.OK)
		wantBase(t, "in another order", b, want)
		wantBase(t, "by its words", b, state.Over(foreign(l), nil))
	}
}

func TestAllocRefuses(t *testing.T) { // P13.2
	one, other := account(0, 1, 1, "", slot(1, 1), slot(2, 2)), account(1, 0, 0, "")
	for what, l := range map[string][]api.Account{
		"one address twice":               {one, other, one},
		"unlike accounts of one address":  {one, {Address: address(0)}},
		"empty accounts of one address":   {{}, {}},
		"one key twice":                   {other, account(0, 0, 0, "", slot(1, 1), slot(2, 1), slot(1, 1))},
		"one key twice, unlike values":    {account(0, 0, 0, "", slot(1, 1), slot(1, 2))},
		"a value of 0":                    {one, account(1, 0, 0, "", slot(0, 1), slot(1, 0))},
		"only a value of 0":               {account(0, 0, 0, "", slot(0, 0))},
		"one key twice, with value 0":     {account(0, 0, 0, "", slot(1, 1), slot(1, 0))},
		"a value of 0 in the last":        {other, account(2, 0, 0, "", slot(6, 0))},
		"a value of 0 of the first of it": {account(2, 0, 0, "", slot(6, 0)), other},
	} {
		b, e := state.Alloc(l)
		wantErrno(t, what, e, api.ErrAlloc)
		if b != nil {
			t.Errorf("%s: a base beside the error", what)
		}
	}
	for what, l := range map[string][]api.Account{
		"nothing": nil, "empty": {}, "one": {one}, "one key in two accounts": {one, account(1, 0, 0, "", slot(1, 1))},
		"values that are alike": {account(0, 0, 0, "", slot(1, 1), slot(2, 1))}, "the address of noughts": {{}},
	} {
		_, e := state.Alloc(l)
		wantErrno(t, what, e, api.OK)
	}
	twice := []api.Account{one, one}
	_, e := state.Alloc(twice[:1]) // what lies behind a length is not read
	wantErrno(t, "behind the length", e, api.OK)
}
