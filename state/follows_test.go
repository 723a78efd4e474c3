package state_test

import (
	"math/big"
	"testing"

	"cairn/api"
	"cairn/state"
	"cairn/trie"
)

func TestBackIsBack(t *testing.T) { // P13.12
	for seed := range 200 {
		r := row(seed)
		l := r.accounts()
		s, other := state.New(alloc(l)), state.New(alloc(l))
		ahead := r // the same steps for both
		for _, x := range []*state.State{s, other} {
			q := ahead
			for range 15 {
				q.any().do(x)
			}
			r = q
		}
		before := told(s)
		mark := s.Mark()
		inner := r.below(4)
		for range 30 {
			x := r.step()
			if r.is(5) && inner > 0 { // marks within, some of them gone back to
				at := s.Mark()
				x.do(s)
				if r.is(2) {
					must(t, s.Back(at))
				}
				inner--
			}
			x.do(s)
		}
		must(t, s.Back(mark))
		wantTold(t, "back", s, before)
		if m := s.Mark(); m != mark || other.Mark() != mark {
			t.Errorf("marks: %d, want %d", m, mark)
		}
		wantText(t, "the rest", rest(s), rest(other))
		if t.Failed() {
			t.Fatal("seed ", seed)
		}
	}
}

func TestLayers(t *testing.T) { // P13.13
	for seed := range 40 {
		r := row(1000 + seed)
		l := r.accounts()
		for what, b := range bases(l) {
			s := state.New(b)
			for range 4 {
				for range 12 {
					r.any().do(s)
				}
				s.End()
				over := state.Over(b, s.Changes())
				next := state.New(over)
				wantText(t, what, accounts(next), accounts(s))
				wantChanges(t, what, next.Changes())
				// A state that goes on over the layer comes to the same.
				q := r
				for range 12 {
					q.step().do(next)
				}
				for range 12 {
					r.step().do(s)
				}
				s.End()
				next.End()
				wantText(t, what+", gone on", accounts(next), accounts(s))
				wantBase(t, what+", two layers", state.Over(over, next.Changes()), state.Over(b, s.Changes()))
				wantBase(t, what+", merged", state.Over(b, state.Merge(state.New(over).Changes(), s.Changes())), state.Over(b, s.Changes()))
			}
			if t.Failed() {
				t.Fatal("seed ", seed)
			}
		}
	}
}

// accounts is what a state tells of accounts and slots, without what hangs on its base.
func accounts(s *state.State) string {
	return baseText(state.Over(asBase{s}, nil))
}

// asBase is a state, as a base.
type asBase struct{ s *state.State }

func (b asBase) Account(a api.Address) (api.Account, bool) {
	return api.Account{Address: a, Nonce: b.s.Nonce(a), Balance: b.s.Balance(a), Code: b.s.Code(a)}, b.s.Exists(a)
}

func (b asBase) Slot(a api.Address, key api.Word) api.Word { return b.s.Slot(a, key) }

func TestLayersInTheMidst(t *testing.T) { // P13.10, P13.13: what was changed since the last Begin, too
	for seed := range 100 {
		r := row(2000 + seed)
		b := alloc(r.accounts())
		s := state.New(b)
		for range 25 {
			r.any().do(s)
			wantText(t, "in the midst", accounts(state.New(state.Over(b, s.Changes()))), accounts(s))
		}
		if t.Failed() {
			t.Fatal("seed ", seed)
		}
	}
}

func TestOneRoot(t *testing.T) { // P13.14
	r := row(14)
	for range 60 {
		l := r.accounts()
		m, root := kept(l)
		var inOrder []api.Change
		step := root
		for range 3 {
			changes := r.changes()
			h, nodes, e := state.Root(m, step, changes)
			must(t, e)
			m.Add(nodes)
			step = h
			inOrder = append(inOrder, changes...)
		}
		one, _, e := state.Root(m, root, inOrder)
		must(t, e)
		two, _, e := state.Root(m, root, state.Merge(inOrder, nil))
		must(t, e)
		half := len(inOrder) / 2
		three, _, e := state.Root(m, root, state.Merge(inOrder[:half], inOrder[half:]))
		must(t, e)
		if one != step || two != step || three != step {
			t.Errorf("in parts %x, at once %x, merged %x and %x", step, one, two, three)
		}
	}
}

func TestRootOfAccountsHoweverTheyCameAbout(t *testing.T) { // P13.14
	for seed := range 60 {
		r := row(3000 + seed)
		l := r.accounts()
		m, root := kept(l)
		b := state.At(m, root)
		s := state.New(b)
		for range 40 {
			r.any().do(s)
		}
		s.End()
		now := accountsOf(asBase{s})
		h, nodes, e := state.Root(m, root, s.Changes())
		must(t, e)
		m.Add(nodes)
		m.Add(codesOf(now))
		wantText(t, "by changes", hexOf(h), hexOf(rootOf(now)))
		anew := state.New(nil) // the same accounts, made another way
		for _, x := range shuffled(&r, now) {
			for _, s := range shuffled(&r, x.Slots) {
				anew.SetSlot(x.Address, s.Key, s.Value)
			}
			anew.SetCode(x.Address, x.Code)
			must(t, anew.Add(x.Address, x.Balance))
			anew.SetNonce(x.Address, x.Nonce)
		}
		other, _, e := state.Root(nil, trie.Empty(), anew.Changes())
		must(t, e)
		wantText(t, "from nothing", hexOf(other), hexOf(h))
		wantBase(t, "At", state.At(m, h), alloc(now))
		wantBase(t, "At of before", b, alloc(l))
	}
}

func TestNothingIsLost(t *testing.T) { // P13.15
	r := row(15)
	sum := func(s *state.State) *big.Int {
		n := new(big.Int)
		for _, a := range addresses() {
			n.Add(n, bigOf(s.Balance(a)))
		}
		return n
	}
	oks, errors := 0, 0
	for range 50 {
		s := state.New(alloc(r.accounts()))
		for range 60 {
			before := sum(s)
			a, v := r.address(), pick(&r, r.balance(), r.value(), s.Balance(r.address()))
			var e api.Errno
			if r.is(2) {
				e = s.Add(a, v)
				before.Add(before, bigOf(v))
			} else {
				e = s.Sub(a, v)
				before.Sub(before, bigOf(v))
			}
			switch {
			case e == api.OK && sum(s).Cmp(before) != 0:
				t.Errorf("the sum is %d, want %d", sum(s), before)
			case e == api.OK:
				oks++
			default:
				wantErrno(t, "refused", e, api.ErrBalance)
				errors++
			}
			if r.is(4) { // nothing else gives or takes
				before := sum(s)
				s.SetNonce(a, 1)
				s.SetSlot(a, key(1), v)
				s.Create(a)
				s.Touch(address(0))
				s.Back(s.Mark())
				s.End()
				if sum(s).Cmp(before) != 0 {
					t.Errorf("the sum was %d, is %d", before, sum(s))
				}
			}
		}
	}
	if oks < 500 || errors < 300 {
		t.Errorf("only %d went well, only %d did not", oks, errors)
	}
}
