package state_test

import (
	"slices"
	"testing"

	"cairn/api"
	"cairn/state"
	"cairn/word"
)

// tidy is a change with its slots in order, each key once, with its last value.
func tidy(c api.Change) api.Change {
	var l []api.Slot
	for _, s := range c.Slots {
		l = slices.DeleteFunc(l, func(x api.Slot) bool { return x.Key == s.Key })
		l = append(l, s)
	}
	slices.SortFunc(l, func(x, y api.Slot) int { return word.Cmp(x.Key, y.Key) })
	c.Slots = l
	return c
}

// both is what two changes of one address come to, by the words of P13.3.
func both(a, b api.Change) api.Change {
	a, b = tidy(a), tidy(b)
	switch {
	case b.Gone || b.Wiped:
		return b
	case a.Gone:
		b.Wiped = true
		return b
	}
	b.Wiped = a.Wiped
	b.Slots = append(slices.Clone(a.Slots), b.Slots...)
	return tidy(b)
}

// single has changes of one address merged change by change, from the left.
func single(l []api.Change) []api.Change {
	var m []api.Change
	for _, c := range l {
		at := slices.IndexFunc(m, func(x api.Change) bool { return x.Address == c.Address })
		if at < 0 {
			m = append(m, tidy(c))
		} else {
			m[at] = both(m[at], c)
		}
	}
	return m
}

// mergedBy is P13.3, by its words.
func mergedBy(a, b []api.Change) []api.Change {
	l := single(append(single(a), single(b)...))
	return sorted(l, func(c api.Change) api.Address { return c.Address })
}

func TestMerge(t *testing.T) { // P13.3
	plain := api.Change{Address: address(1), Nonce: 1, Balance: w(10), Code: []byte("a"), Slots: []api.Slot{slot(2, 2), slot(1, 1), slot(6, 6)}}
	wiped := api.Change{Address: address(1), Nonce: 2, Wiped: true, Slots: []api.Slot{slot(4, 4), slot(1, 0)}}
	gone := api.Change{Address: address(1), Gone: true}
	late := api.Change{Address: address(1), Nonce: 9, Balance: w(90), Code: []byte("b"), Slots: []api.Slot{slot(5, 5), slot(1, 0), slot(2, 7)}}
	with := func(c api.Change, wiped bool, l ...api.Slot) []api.Change {
		c.Wiped, c.Slots = wiped, l
		return []api.Change{c}
	}
	tidied := with(plain, false, slot(1, 1), slot(2, 2), slot(6, 6))
	for what, x := range map[string]struct{ a, b, want []api.Change }{
		"nothing":                  {nil, nil, nil},
		"only a's":                 {[]api.Change{plain}, nil, tidied},
		"only b's":                 {nil, []api.Change{plain}, tidied},
		"only a's, gone":           {[]api.Change{gone}, nil, []api.Change{gone}},
		"only b's, wiped":          {nil, []api.Change{wiped}, with(wiped, true, slot(1, 0), slot(4, 4))},
		"several slots of one key": {nil, with(plain, false, slot(2, 1), slot(1, 5), slot(2, 3), slot(2, 2)), with(plain, false, slot(1, 5), slot(2, 2))},
		"plain, plain":             {[]api.Change{plain}, []api.Change{late}, with(late, false, slot(1, 0), slot(2, 7), slot(5, 5), slot(6, 6))},
		"plain, gone":              {[]api.Change{plain}, []api.Change{gone}, []api.Change{gone}},
		"plain, wiped":             {[]api.Change{plain}, []api.Change{wiped}, with(wiped, true, slot(1, 0), slot(4, 4))},
		"gone, plain":              {[]api.Change{gone}, []api.Change{plain}, with(plain, true, slot(1, 1), slot(2, 2), slot(6, 6))},
		"gone, gone":               {[]api.Change{gone}, []api.Change{gone}, []api.Change{gone}},
		"gone, wiped":              {[]api.Change{gone}, []api.Change{wiped}, with(wiped, true, slot(1, 0), slot(4, 4))},
		"wiped, plain":             {[]api.Change{wiped}, []api.Change{late}, with(late, true, slot(1, 0), slot(2, 7), slot(4, 4), slot(5, 5))},
		"wiped, gone":              {[]api.Change{wiped}, []api.Change{gone}, []api.Change{gone}},
		"wiped, wiped":             {[]api.Change{wiped}, []api.Change{with(late, true, slot(0, 1))[0]}, with(late, true, slot(0, 1))},
		"several in a":             {[]api.Change{plain, gone, late}, nil, with(late, true, slot(1, 0), slot(2, 7), slot(5, 5))},
		"several in b":             {nil, []api.Change{plain, late}, with(late, false, slot(1, 0), slot(2, 7), slot(5, 5), slot(6, 6))},
		"several in both":          {[]api.Change{gone, plain}, []api.Change{late, wiped, late}, with(late, true, slot(1, 0), slot(2, 7), slot(4, 4), slot(5, 5))},
		"gone of several in b":     {[]api.Change{plain}, []api.Change{gone, late}, with(late, true, slot(1, 0), slot(2, 7), slot(5, 5))},
		"in order": {[]api.Change{{Address: address(5)}, {Address: address(2)}}, []api.Change{{Address: address(3)}, {Address: address(0)}, {Address: address(4)}},
			[]api.Change{{}, {Address: address(2)}, {Address: address(3)}, {Address: address(4)}, {Address: address(5)}}},
	} {
		wantChanges(t, what, state.Merge(x.a, x.b), x.want...)
	}
}

func TestMergeByItsWords(t *testing.T) { // P13.3
	r := row(4)
	for range 300 {
		var lists [2][]api.Change
		for i := range lists {
			lists[i] = r.changes()
			if r.is(2) {
				lists[i] = append(lists[i], r.changes()...) // also several of one address
			}
			for j, c := range lists[i] {
				lists[i][j].Slots = append(c.Slots, r.slots(true)...) // also several of one key
			}
		}
		l := state.Merge(lists[0], lists[1])
		wantChanges(t, "Merge", l, mergedBy(lists[0], lists[1])...)
		wantChanges(t, "merged again", state.Merge(nil, l), l...)
		wantChanges(t, "merged again", state.Merge(l, nil), l...)
	}
}

func TestOverOfMerged(t *testing.T) { // P13.3, P13.13: for any base
	r := row(5)
	for range 100 {
		a, b, c := r.changes(), r.changes(), r.changes()
		for what, x := range bases(r.accounts()) {
			one, two := state.Over(x, state.Merge(a, b)), state.Over(state.Over(x, a), b)
			wantBase(t, what, one, two)
			three := state.Over(two, c)
			wantBase(t, what, state.Over(x, state.Merge(state.Merge(a, b), c)), three)
			wantBase(t, what, state.Over(x, state.Merge(a, state.Merge(b, c))), three)
		}
	}
}

func TestMergeOfMany(t *testing.T) { // P13.3: many changes of one account are merged in fair time
	var l []api.Change
	for i := range 100000 {
		l = append(l, api.Change{Address: address(1), Nonce: uint64(i), Slots: []api.Slot{{Key: w(uint64(i)), Value: w(1)}}})
	}
	m := state.Merge(l, l)
	if len(m) != 1 || m[0].Nonce != 99999 || len(m[0].Slots) != 100000 || m[0].Slots[70000].Key != w(70000) {
		t.Errorf("%d changes", len(m))
	}
}
