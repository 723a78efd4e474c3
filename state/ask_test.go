package state_test

import (
	"strings"
	"testing"

	"cairn/api"
	"cairn/digest"
	"cairn/state"
)

func TestExistsAndEmpty(t *testing.T) { // P13.6, and the section Words
	for what, x := range map[string]struct {
		x                   api.Account
		exists, empty, used bool
	}{
		"nobody":  {account(1, 0, 0, ""), false, true, false},
		"empty":   {account(0, 0, 0, ""), true, true, false},
		"nonce":   {account(0, 1, 0, ""), true, false, true},
		"great":   {account(0, 1<<63, 0, ""), true, false, true},
		"balance": {account(0, 0, 1, ""), true, false, false},
		"rich":    {api.Account{Address: address(0), Balance: api.Word{0, 0, 0, 1}}, true, false, false},
		"code":    {account(0, 0, 0, "\x00"), true, false, true},
		"slots":   {account(0, 0, 0, "", slot(0, 1)), true, true, false},
		"all":     {account(0, 1, 1, "c", slot(0, 1)), true, false, true},
	} {
		for kind, b := range bases([]api.Account{x.x}) {
			s := state.New(b)
			a := address(0)
			if !x.exists {
				a = address(2)
			}
			if s.Exists(a) != x.exists || s.Empty(a) != x.empty || s.Used(a) != x.used {
				t.Errorf("%s, %s: exists %v, empty %v, used %v", what, kind, s.Exists(a), s.Empty(a), s.Used(a))
			}
			hash := digest.Keccak(x.x.Code)
			if !x.exists {
				hash = api.Hash{}
			}
			if s.CodeHash(a) != hash {
				t.Errorf("%s, %s: CodeHash %x", what, kind, s.CodeHash(a))
			}
			wantTrue(t, what+": not fresh", !s.Fresh(a))
		}
	}
}

func TestAskingMakesNothing(t *testing.T) { // P13.6
	s := over(some()...)
	before := told(s)
	for _, a := range addresses() {
		s.Slot(a, key(1))
		s.First(a, key(1))
		s.Code(a)
	}
	wantTold(t, "asked", s, before)
	s.End()
	wantTold(t, "asked and ended", s, before)
	wantChanges(t, "asked", s.Changes())
}

func TestFirst(t *testing.T) { // P13.6
	s := over(some()...)
	a, b, none := address(0), address(3), address(4)
	first := func(what string, a api.Address, now, first uint64) {
		t.Helper()
		wantWord(t, what+": now", s.Slot(a, key(1)), w(now))
		wantWord(t, what+": at first", s.First(a, key(1)), w(first))
	}
	first("as the base", a, 11, 11)
	s.SetSlot(a, key(1), w(1))
	first("set", a, 1, 11)
	s.SetSlot(a, key(1), w(2))
	first("set again", a, 2, 11)
	s.SetSlot(a, key(1), w(0))
	first("taken away", a, 0, 11)
	s.SetSlot(a, key(1), w(11))
	first("as it was", a, 11, 11)
	s.SetSlot(a, key(1), w(3))
	s.Begin()
	first("another transaction", a, 3, 3)
	s.SetSlot(a, key(1), w(4))
	s.End()
	first("another transaction, by End", a, 4, 4)

	s.SetSlot(none, key(1), w(5))
	first("of one that was made, not created", none, 5, 0)
	s.SetNonce(none, 1)
	s.End()
	first("made in the last transaction", none, 5, 5)

	mark := s.Mark()
	s.SetSlot(b, key(1), w(6))
	s.Create(b)
	first("created", b, 0, 0)
	s.SetSlot(b, key(1), w(7))
	first("created and set", b, 7, 0)
	must(t, s.Back(mark))
	first("not created any more", b, 31, 31)
	s.SetSlot(b, key(1), w(8))
	first("set behind Back", b, 8, 31)
	mark = s.Mark()
	s.Create(b)
	s.SetSlot(b, key(1), w(9))
	first("set, created", b, 9, 0)
	must(t, s.Back(mark))
	first("set, back", b, 8, 31)
	s.Create(b)
	s.SetNonce(b, 1)
	s.SetSlot(b, key(1), w(9))
	s.End()
	first("created in the last transaction", b, 9, 9)
	wantWord(t, "another key", s.First(b, key(2)), w(0))
}

func TestPassing(t *testing.T) { // P13.6, P13.7
	s := over(some()...)
	for i, a := range addresses() {
		wantWord(t, "none was set", s.Passing(a, key(1)), w(0))
		s.SetPassing(a, key(1), w(uint64(i+1)))
	}
	for i, a := range addresses() {
		wantWord(t, "by address", s.Passing(a, key(1)), w(uint64(i+1)))
		wantWord(t, "by key", s.Passing(a, key(2)), w(0))
	}
	s.SetPassing(address(1), key(1), w(0))
	wantWord(t, "set to 0", s.Passing(address(1), key(1)), w(0))
	wantWord(t, "no slot", s.Slot(address(5), key(1)), w(0))
	wantChanges(t, "nothing is made", s.Changes())
	wantTrue(t, "nothing is made", !s.Exists(address(4)))
	s.End()
	wantChanges(t, "nothing is touched", s.Changes())
	wantTold(t, "nothing passes on", s, told(newModel(some())))
}

func TestCode(t *testing.T) { // P13.6
	long := strings.Repeat("\x00\xff", 20000)
	s := state.New(nil)
	for _, code := range []string{"", "\x00", "\xef", long, "a"} {
		s.SetCode(address(1), []byte(code))
		wantTrue(t, "the code", string(s.Code(address(1))) == code && s.CodeHash(address(1)) == digest.Keccak([]byte(code)))
		wantTrue(t, "of another", len(s.Code(address(2))) == 0 && s.CodeHash(address(2)) == api.Hash{})
		wantTrue(t, "used", s.Used(address(1)) == (code != "") && s.Empty(address(1)) == (code == ""))
	}
}
