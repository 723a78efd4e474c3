package state_test

import (
	"maps"
	"math/big"
	"slices"
	"testing"

	"cairn/api"
	"cairn/digest"
	"cairn/state"
	"cairn/word"
)

// model is a state by the chapter's words, as plain as can be: a mark is a copy of everything.
type model struct {
	base map[api.Address]plain
	moment
	began map[api.Address]plain // the accounts when the transaction began
	marks []moment
}

// plain is an account.
type plain struct {
	nonce   uint64
	balance *big.Int
	code    string
	slots   map[api.Word]api.Word
}

type spot struct {
	a   api.Address
	key api.Word
}

// moment is what Back brings back.
type moment struct {
	accounts                     map[api.Address]plain
	remade                       map[api.Address]bool // created, or gone, since New
	warm, fresh, doomed, touched map[api.Address]bool
	warmSlots                    map[spot]bool
	passing                      map[spot]api.Word
	logs                         []api.Log
	refund                       *big.Int
}

func copyAccounts(m map[api.Address]plain) map[api.Address]plain {
	c := map[api.Address]plain{}
	for a, x := range m {
		x.slots = maps.Clone(x.slots)
		c[a] = x
	}
	return c
}

func (m moment) copied() moment {
	return moment{
		accounts: copyAccounts(m.accounts), remade: maps.Clone(m.remade),
		warm: maps.Clone(m.warm), fresh: maps.Clone(m.fresh), doomed: maps.Clone(m.doomed), touched: maps.Clone(m.touched),
		warmSlots: maps.Clone(m.warmSlots), passing: maps.Clone(m.passing), logs: slices.Clone(m.logs), refund: m.refund,
	}
}

func newModel(l []api.Account) *model {
	m := &model{base: map[api.Address]plain{}}
	for _, x := range l {
		p := plain{nonce: x.Nonce, balance: bigOf(x.Balance), code: string(x.Code), slots: map[api.Word]api.Word{}}
		for _, s := range x.Slots {
			p.slots[s.Key] = s.Value
		}
		m.base[x.Address] = p
	}
	m.accounts, m.remade = copyAccounts(m.base), map[api.Address]bool{}
	m.Begin()
	return m
}

func (m *model) Begin() {
	m.moment = moment{
		accounts: m.accounts, remade: m.remade,
		warm: map[api.Address]bool{}, fresh: map[api.Address]bool{}, doomed: map[api.Address]bool{}, touched: map[api.Address]bool{},
		warmSlots: map[spot]bool{}, passing: map[spot]api.Word{}, refund: new(big.Int),
	}
	m.began, m.marks = copyAccounts(m.accounts), nil
}

func (m *model) remove(a api.Address) {
	delete(m.accounts, a)
	m.remade[a] = true
}

func (m *model) End() {
	for a := range m.doomed {
		m.remove(a)
	}
	for a := range m.touched {
		if m.Exists(a) && m.Empty(a) {
			m.remove(a)
		}
	}
	m.Begin()
}

func (m *model) Exists(a api.Address) bool { _, is := m.accounts[a]; return is }

func (m *model) Empty(a api.Address) bool {
	return m.Nonce(a) == 0 && m.Balance(a) == api.Word{} && len(m.Code(a)) == 0
}

func (m *model) Nonce(a api.Address) uint64 { return m.accounts[a].nonce }

func (m *model) Balance(a api.Address) api.Word {
	if !m.Exists(a) {
		return api.Word{}
	}
	return wordOf(m.accounts[a].balance)
}

func (m *model) Code(a api.Address) []byte { return []byte(m.accounts[a].code) }

func (m *model) CodeHash(a api.Address) api.Hash {
	if !m.Exists(a) {
		return api.Hash{}
	}
	return digest.Keccak(m.Code(a))
}

func (m *model) Slot(a api.Address, key api.Word) api.Word { return m.accounts[a].slots[key] }

func (m *model) First(a api.Address, key api.Word) api.Word {
	if m.fresh[a] {
		return api.Word{}
	}
	return m.began[a].slots[key]
}

func (m *model) Passing(a api.Address, key api.Word) api.Word { return m.passing[spot{a, key}] }

func (m *model) Used(a api.Address) bool { return m.Nonce(a) != 0 || len(m.Code(a)) > 0 }

func (m *model) Fresh(a api.Address) bool { return m.fresh[a] }

// changed makes the account where it isn't, has it changed, and touches it.
func (m *model) changed(a api.Address, by func(x *plain)) {
	x, is := m.accounts[a]
	if !is {
		x = plain{balance: new(big.Int), slots: map[api.Word]api.Word{}}
	}
	by(&x)
	m.accounts[a] = x
	m.touched[a] = true
}

func (m *model) SetNonce(a api.Address, n uint64) { m.changed(a, func(x *plain) { x.nonce = n }) }

func (m *model) SetCode(a api.Address, code []byte) {
	m.changed(a, func(x *plain) { x.code = string(code) })
}

func (m *model) Add(a api.Address, v api.Word) api.Errno {
	return m.balanced(a, new(big.Int).Add(bigOf(m.Balance(a)), bigOf(v)))
}

func (m *model) Sub(a api.Address, v api.Word) api.Errno {
	return m.balanced(a, new(big.Int).Sub(bigOf(m.Balance(a)), bigOf(v)))
}

func (m *model) balanced(a api.Address, n *big.Int) api.Errno {
	if n.Sign() < 0 || n.BitLen() > 256 {
		return api.ErrBalance
	}
	m.changed(a, func(x *plain) { x.balance = n })
	return api.OK
}

func (m *model) SetSlot(a api.Address, key, value api.Word) {
	m.changed(a, func(x *plain) {
		x.slots[key] = value
		if value == (api.Word{}) {
			delete(x.slots, key)
		}
	})
}

func (m *model) SetPassing(a api.Address, key, value api.Word) { m.passing[spot{a, key}] = value }

func (m *model) Create(a api.Address) {
	m.changed(a, func(x *plain) { *x = plain{balance: x.balance, slots: map[api.Word]api.Word{}} })
	m.fresh[a], m.remade[a] = true, true
}

func (m *model) Destroy(a api.Address) {
	if m.Exists(a) && m.fresh[a] {
		m.doomed[a] = true
	}
}

func (m *model) Touch(a api.Address) {
	if m.Exists(a) {
		m.touched[a] = true
	}
}

func (m *model) Warm(a api.Address) bool {
	was := m.warm[a]
	m.warm[a] = true
	return was
}

func (m *model) WarmSlot(a api.Address, key api.Word) bool {
	was := m.warmSlots[spot{a, key}]
	m.warmSlots[spot{a, key}] = true
	return was
}

func (m *model) Tell(l api.Log) { m.logs = append(m.logs, l) }

func (m *model) Logs() []api.Log { return m.logs }

func (m *model) Refund() uint64 { return m.refund.Uint64() }

func (m *model) AddRefund(by int) {
	n := new(big.Int).Add(m.refund, big.NewInt(int64(by)))
	if n.Sign() < 0 {
		n = new(big.Int)
	}
	if n.BitLen() > 63 {
		n = new(big.Int).SetUint64(1<<63 - 1)
	}
	m.refund = n
}

func (m *model) Mark() int {
	m.marks = append(m.marks, m.moment.copied())
	return len(m.marks) - 1
}

func (m *model) Back(mark int) api.Errno {
	if mark < 0 || mark >= len(m.marks) {
		return api.ErrRange
	}
	m.moment, m.marks = m.marks[mark], m.marks[:mark]
	return api.OK
}

func (m *model) Changes() []api.Change {
	var l []api.Change
	for _, a := range addresses() {
		x, is := m.accounts[a]
		b, had := m.base[a]
		c := api.Change{Address: a}
		switch {
		case !is && !had:
			continue
		case !is:
			c.Gone = true
		default:
			c.Nonce, c.Balance, c.Code, c.Wiped = x.nonce, wordOf(x.balance), []byte(x.code), had && m.remade[a]
			for _, k := range keys() {
				before := b.slots[k]
				if c.Wiped {
					before = api.Word{}
				}
				if x.slots[k] != before {
					c.Slots = append(c.Slots, api.Slot{Key: k, Value: x.slots[k]})
				}
			}
			same := x.nonce == b.nonce && x.code == b.code && had && x.balance.Cmp(b.balance) == 0
			if same && len(c.Slots) == 0 && !c.Wiped {
				continue
			}
		}
		l = append(l, c)
	}
	return l
}

// step is something that is done to a state, with what it answers.
type step struct {
	what string
	do   func(s stating) any
}

// step is one of any kind that is no mark and neither begins nor ends anything.
func (r *row) step() step {
	a, k, v, n := r.address(), r.key(), r.value(), r.below(3)
	nothing := func(f func(s stating)) func(s stating) any { return func(s stating) any { f(s); return nil } }
	code, balance := r.code(), r.balance()
	by := pick(r, 0, 5, -3, 4800, -15000, 1<<63-1, -1<<63)
	log := api.Log{Address: a, Topics: make([]api.Hash, n), Data: code}
	return pick(r,
		step{"SetNonce", nothing(func(s stating) { s.SetNonce(a, uint64(n)) })},
		step{"SetCode", nothing(func(s stating) { s.SetCode(a, code) })},
		step{"Add", func(s stating) any { return s.Add(a, balance) }},
		step{"Sub", func(s stating) any { return s.Sub(a, balance) }},
		step{"Sub of all", func(s stating) any { return s.Sub(a, s.Balance(a)) }},
		step{"SetSlot", nothing(func(s stating) { s.SetSlot(a, k, v) })},
		step{"SetSlot again", nothing(func(s stating) { s.SetSlot(a, k, s.First(a, k)) })},
		step{"SetPassing", nothing(func(s stating) { s.SetPassing(a, k, v) })},
		step{"Create", nothing(func(s stating) { s.Create(a) })},
		step{"Destroy", nothing(func(s stating) { s.Destroy(a) })},
		step{"Touch", nothing(func(s stating) { s.Touch(a) })},
		step{"Warm", func(s stating) any { return s.Warm(a) }},
		step{"WarmSlot", func(s stating) any { return s.WarmSlot(a, k) }},
		step{"Tell", nothing(func(s stating) { s.Tell(log) })},
		step{"AddRefund", nothing(func(s stating) { s.AddRefund(by) })},
	)
}

// any is a step of any kind at all.
func (r *row) any() step {
	mark := r.below(6) - 1
	switch r.below(12) {
	case 0, 1:
		return step{"Mark", func(s stating) any { return s.Mark() }}
	case 2:
		return step{"Back", func(s stating) any { return s.Back(mark) }}
	case 3:
		if r.is(4) {
			return step{"Begin", func(s stating) any { s.Begin(); return nil }}
		}
		return step{"End", func(s stating) any { s.End(); return nil }}
	}
	return r.step()
}

func TestAgainstTheModel(t *testing.T) { // P13.4 to P13.10: each answer, and all that can be asked behind it, over bases of every kind
	for seed := range 100 {
		r := row(seed)
		l := r.accounts()
		for what, b := range bases(l) {
			q := r
			s, m := state.New(b), newModel(l)
			before := baseText(b)
			wantTold(t, what, s, told(m))
			for i := range 50 {
				x := q.any()
				got, want := x.do(s), x.do(m)
				if got != want {
					t.Fatalf("seed %d, %s, step %d, %s: got %v, want %v", seed, what, i, x.what, got, want)
				}
				if i%5 == 4 {
					wantTold(t, what, s, told(m))
				}
				if t.Failed() {
					t.Fatalf("seed %d, step %d, %s", seed, i, x.what)
				}
			}
			wantText(t, what, rest(s), rest(m))
			wantText(t, what+": the base", baseText(b), before)
		}
	}
}

func TestTheTestsOwnOrder(t *testing.T) { // the tests' addresses and keys stand in order, or the model's changes would not
	if !slices.IsSortedFunc(keys(), word.Cmp) {
		t.Error("keys")
	}
	l := sorted(addresses(), func(a api.Address) api.Address { return a })
	if !slices.Equal(l, addresses()) {
		t.Error("addresses")
	}
}
