package state_test

import (
	"testing"

	"cairn/api"
	"cairn/digest"
	"cairn/state"
	"cairn/trie"
)

// P2: nothing that is handed in is kept or changed, nothing that is told is shared. P3: nil and empty are the same.

// roomy is a list with more behind its length.
func roomy[T any](l []T, more ...T) []T {
	whole := append(append(make([]T, 0, len(l)+len(more)), l...), more...)
	return whole[:len(l)]
}

// spoilAccounts and spoilChanges write over all that they reach.
func spoilAccounts(l []api.Account) {
	for _, x := range l {
		spoil(x.Code, '!')
		spoil(x.Slots, slot(4, 99))
	}
	spoil(l, api.Account{Address: address(5), Nonce: 99})
}

func spoilChanges(l []api.Change) {
	for _, c := range l {
		spoil(c.Code, '!')
		spoil(c.Slots, slot(4, 99))
	}
	spoil(l, api.Change{Address: address(5), Nonce: 99})
}

func TestWhatIsHandedInIsNotKept(t *testing.T) { // P2
	l := some()
	b, e := state.Alloc(l)
	must(t, e)
	spoilAccounts(l)
	wantBase(t, "Alloc", b, state.Over(foreign(some()), nil))

	c := changesOf(some())
	b = state.Over(nil, c)
	spoilChanges(c)
	wantBase(t, "Over", b, alloc(some()))

	one, two := changesOf(some()), changesOf(some()[:2])
	merged := state.Merge(one, two)
	spoilChanges(one)
	spoilChanges(two)
	wantChanges(t, "Merge", merged, changesOf(some())...)

	s := state.New(nil)
	code := []byte("code")
	s.SetCode(address(1), code)
	spoil(code, '!')
	wantText(t, "SetCode", string(s.Code(address(1))), "code")
	log := api.Log{Address: address(1), Topics: []api.Hash{{1}, {2}}, Data: []byte("data")}
	s.Tell(log)
	before := logsText(s.Logs())
	spoil(log.Topics, api.Hash{9})
	spoil(log.Data, '!')
	wantText(t, "Tell", logsText(s.Logs()), before)

	c = changesOf(some())
	root, nodes, e := state.Root(nil, trie.Empty(), c)
	must(t, e)
	spoilChanges(c)
	m := trie.NewMemory()
	m.Add(nodes)
	m.Add(codesOf(some()))
	wantBase(t, "Root", state.At(m, root), alloc(some()))
}

func TestWhatIsHandedInIsNotChanged(t *testing.T) { // P2
	junk := api.Slot{Key: key(3), Value: w(33)}
	slots := roomy([]api.Slot{slot(6, 6), slot(1, 1), slot(2, 2)}, junk)
	code := roomy([]byte("code"), 'x', 'y')
	l := roomy([]api.Account{{Address: address(3), Code: code, Slots: slots}, {Address: address(1)}}, api.Account{Address: address(1)})
	c := roomy(changesOf(l), api.Change{Address: address(3), Gone: true})
	topics := roomy([]api.Hash{{1}}, api.Hash{2})
	text := func() string {
		return accountText(l[0]) + accountText(l[1]) + accountText(l[:3][2]) + changesText(c[:3]) + slotsText(slots[:4]) + string(code[:6]) + hexOf(topics[:2][1])
	}
	before := text()
	b, e := state.Alloc(l)
	must(t, e)
	baseText(b)
	baseText(state.Over(b, c))
	state.Merge(c, c)
	state.Merge(c[:1], c[1:])
	_, _, e = state.Root(nil, trie.Empty(), c)
	must(t, e)
	s := state.New(b)
	s.SetCode(address(0), code)
	s.SetCode(address(0), append(s.Code(address(0)), 'z'))
	s.Tell(api.Log{Topics: topics, Data: code})
	wantText(t, "handed in", text(), before)
	// What lies behind a length is not read.
	wantChanges(t, "behind the length", state.Merge(c, nil), mergedBy(c, nil)...)
	wantText(t, "behind the length", baseText(state.Over(nil, c)), baseText(b))
	wantText(t, "behind the length", logsText(s.Logs()), logsText([]api.Log{{Topics: []api.Hash{{1}}, Data: []byte("code")}}))
}

func TestWhatABaseTellsIsNotKeptOrChanged(t *testing.T) { // P2: its memory is its own
	l := some()
	for i := range l {
		l[i].Code = roomy(l[i].Code, 'x')
	}
	s := state.New(foreign(l))
	over := state.Over(foreign(l), nil)
	for _, a := range addresses() {
		spoil(s.Code(a), '!')
		x, _ := over.Account(a)
		spoil(x.Code, '!')
		spoil(x.Slots, slot(4, 99))
	}
	wantBase(t, "the base", state.Over(foreign(l), nil), alloc(some()))
	wantText(t, "behind the length", string(l[0].Code[:5]), "codex")
	s.SetNonce(address(0), 9) // from now on the state has the account
	spoil(s.Code(address(0)), '!')
	spoilChanges(s.Changes())
	wantBase(t, "the base", state.Over(foreign(l), nil), alloc(some()))
	spoil(l[0].Code, '?')
	wantText(t, "what the state has", string(s.Code(address(0))), "code")
}

func TestWhatASourceTellsIsNotShared(t *testing.T) { // P2
	nodes := all(some())
	b := state.At(lacking{nodes: nodes}, rootOf(some()))
	x, _ := b.Account(address(0))
	spoil(x.Code, '!')
	wantText(t, "a code", string(nodes[digest.Keccak([]byte("code"))]), "code")
	wantBase(t, "At", b, alloc(some()))
}

func TestWhatIsToldIsTheCallersOwn(t *testing.T) { // P2
	for what, b := range bases(some()) {
		if what == "foreign" {
			continue
		}
		for range 2 {
			x, _ := b.Account(address(0))
			other, _ := b.Account(address(0))
			spoil(x.Code, '!')
			wantText(t, what+": another answer", string(other.Code), "code")
		}
		wantBase(t, what, b, alloc(some()))
		s := state.New(b)
		busy(s)
		s.Create(address(1))
		s.SetCode(address(1), []byte("made"))
		s.SetSlot(address(1), key(1), w(5))
		s.Tell(api.Log{Topics: []api.Hash{{1}, {2}}, Data: []byte("data")})
		before := told(s)
		for range 2 {
			changes, others := s.Changes(), changesText(s.Changes())
			more := s.Changes()
			spoilChanges(changes)
			wantText(t, what+": Changes", changesText(more), others)
			logs := s.Logs()
			for _, l := range logs {
				spoil(l.Topics, api.Hash{9})
				spoil(l.Data, '!')
			}
			spoil(logs, api.Log{})
			spoil(s.Code(address(1)), '!')
			spoil(s.Code(address(0)), '!')
			wantTold(t, what, s, before)
		}
		over := state.Over(b, s.Changes())
		is := baseText(over)
		s.SetCode(address(1), []byte("else"))
		s.SetSlot(address(1), key(1), w(6))
		s.End()
		wantText(t, what+": a layer of what was told", baseText(over), is)
	}
}

func TestListsOfOneAnswerShareNothing(t *testing.T) { // P2
	l := state.Merge(changesOf(some()), changesOf([]api.Account{account(1, 0, 0, "code", slot(1, 1)), account(2, 0, 0, "code", slot(1, 1))}))
	want := changesText(l[1:])
	spoil(l[0].Code, '!')
	spoil(l[0].Slots, api.Slot{})
	wantText(t, "Merge", changesText(l[1:]), want)
	_, nodes, e := state.Root(nil, trie.Empty(), changesOf(some()))
	must(t, e)
	text := nodesText(nodes[1:])
	spoil(nodes[0].Bytes, 0)
	wantText(t, "Root", nodesText(nodes[1:]), text)
	s := state.New(nil)
	log := api.Log{Topics: []api.Hash{{1}}, Data: []byte("data")}
	s.Tell(log)
	s.Tell(log)
	logs := s.Logs()
	spoil(logs[0].Topics, api.Hash{})
	spoil(logs[0].Data, '!')
	wantText(t, "Logs", logsText(logs[1:]), logsText([]api.Log{log}))
}

func TestNilAndEmptyAreTheSame(t *testing.T) { // P3
	for _, none := range [][]byte{nil, {}, []byte("x")[:0]} {
		s := over(account(1, 1, 1, ""))
		s.SetCode(address(1), none)
		wantChanges(t, "SetCode", s.Changes())
		s.Tell(api.Log{Topics: []api.Hash{}, Data: none})
		wantText(t, "Tell", logsText(s.Logs()), logsText([]api.Log{{}}))
		b, e := state.Alloc([]api.Account{{Address: address(1), Nonce: 1, Balance: w(1), Code: none, Slots: []api.Slot{}}})
		must(t, e)
		wantBase(t, "Alloc", b, alloc([]api.Account{account(1, 1, 1, "")}))
		h, _, e := state.Root(nil, trie.Empty(), []api.Change{{Address: address(1), Code: none, Slots: []api.Slot{}}})
		must(t, e)
		wantText(t, "Root", hexOf(h), hexOf(rootOf([]api.Account{account(1, 0, 0, "")})))
	}
	wantBase(t, "Over", state.Over(nil, []api.Change{}), alloc([]api.Account{}))
	wantChanges(t, "Merge", state.Merge([]api.Change{}, []api.Change{}))
}
