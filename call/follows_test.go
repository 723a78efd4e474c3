package call_test

import (
	"fmt"
	"math/big"
	"slices"
	"testing"

	"cairn/api"
	"cairn/call"
	"cairn/state"
)

// contracts are the accounts that have code made as if by chance.
func contracts() []api.Address {
	var l []api.Address
	for i := range 5 {
		l = append(l, api.Address{0: 0x50, 19: byte(0x30 + i)})
	}
	return l
}

// anybody is an account of any kind.
func (r *row) anybody() api.Address {
	if !r.is(3) {
		return pick(r, contracts()...)
	}
	return pick(r, sender, bare, full, empty, absent, echo, api.Address{19: 1}, api.Address{19: 9}, api.Address{})
}

// call is code that calls anybody, with what it has in memory, and keeps or drops what comes of it.
func (r *row) call() []byte {
	op := pick(r, byte(0xf1), 0xf1, 0xf2, 0xf4, 0xfa)
	gas := pick[uint64](r, 0, 2300, 30000, 200000, 1<<40)
	b := calling(op, r.anybody(), pick[uint64](r, 0, 0, 0, 1, 2, 500), gas, r.below(64))
	return append(b, r.kept()...)
}

// kept is code that keeps or drops a word.
func (r *row) kept() []byte {
	if r.is(3) {
		return stored(uint64(r.below(4)))
	}
	return raw(0x50)
}

// inits are init codes that go well, fail, destroy themselves, call back, create; letting is whether what one destroys may be let go.
func inits(letting bool) [][]byte {
	l := [][]byte{
		nil, stop(), raw(0x5f, 0x5f, 0xf3), raw(0x60, 0xef, 0x5f, 0x53, 0x60, 1, 0x5f, 0xf3), raw(0x61, 0x33, 0xff, 0x5f, 0x52, 0x60, 2, 0x60, 30, 0xf3),
		raw(0x33, 0xff), raw(0x5f, 0x5f, 0xfd), raw(0x60, 33, 0x5f, 0xfd), fault(), raw(0x61, 0x60, 0x00, 0x5f, 0xf3), raw(0x61, 0x60, 0x01, 0x5f, 0xf3),
		raw(0x60, 100, 0x5f, 0xf3), raw(0x60, 1, 0x60, 2, 0x55, 0), raw(0x5f, 0x5f, 0x5f, 0x5f, 0x60, 1, 0x33, 0x5a, 0xf1, 0),
		raw(0x5f, 0x5f, 0x5f, 0x5f, 0x33, 0x5a, 0xf4, 0), raw(0x5f, 0x5f, 0x5f, 0xf0, 0x60, 1, 0x55, 0),
	}
	if letting {
		return append(l, raw(0x30, 0xff), raw(0x61, 0x30, 0xff, 0x5f, 0x52, 0x60, 2, 0x60, 30, 0xf3))
	}
	return l
}

// create is code that creates, and calls what it made, now and then.
func (r *row) create(letting bool) []byte {
	b := making(pick(r, byte(0xf0), 0xf5), pick[uint64](r, 0, 0, 1, 2, 500), pick(r, inits(letting)...))
	if r.is(2) {
		for _, x := range []uint64{0, 0, 0, 0, pick[uint64](r, 0, 1)} {
			b = append(b, push(w(x))...)
		}
		b = append(append(append(b, 0x85), push(w(100000))...), 0xf1)
		b = append(b, r.kept()...)
	}
	return append(b, r.kept()...)
}

// code does some things, and ends in some way.
func (r *row) code(letting bool) []byte {
	var b []byte
	for range 1 + r.below(6) {
		switch r.below(12) {
		case 0, 1, 2, 3, 4:
			b = append(b, r.call()...)
		case 5, 6:
			b = append(b, r.create(letting)...)
		case 7:
			b = append(b, storing(uint64(r.below(4)), uint64(r.below(3)))...)
		case 8:
			b = append(b, with(0x5d, w(uint64(r.below(4))), w(uint64(r.below(3))))...)
		case 9:
			b = append(b, with(0xa0+byte(r.below(2)), w(0), w(uint64(r.below(40))), w(1))...)
		case 10:
			b = append(append(b, with(pick(r, byte(0x31), 0x3f), of(r.anybody()))...), r.kept()...)
		case 11:
			b = append(append(b, pick(r, byte(0x3d), 0x33, 0x34, 0x30, 0x47, 0x36)), r.kept()...)
		}
	}
	some := uint64(r.below(70))
	ends := [][]byte{stop(), stop(), nil, returned(some), returned(32), revert(some), revert(0), fault(), destroy(r.anybody())}
	if letting {
		ends = append(ends, raw(0x30, 0xff))
	}
	return append(b, pick(r, ends...)...)
}

// world is some contracts over the accounts that there are.
func (r *row) world(letting bool) []api.Account {
	l := noCode()
	for _, a := range contracts() {
		l = append(l, coded(a, r.code(letting)))
	}
	return l
}

// message is one to anybody, or a creation.
func (r *row) message() api.Msg {
	m := api.Msg{
		Kind: pick(r, kinds()...), From: r.anybody(), To: r.anybody(), Caller: r.anybody(), Value: w(pick[uint64](r, 0, 0, 1, 3, 100, 2000)),
		Salt: w(uint64(r.below(2))), Gas: pick(r, uint64(r.below(30000)), 100000, 300000, 900000), Static: r.is(6),
		Depth: pick(r, 0, 0, 0, 0, 1000, api.MaxCalls-2, api.MaxCalls-1, api.MaxCalls, api.MaxCalls+1, -1),
	}
	m.Input = make([]byte, r.below(70))
	if m.Kind == api.MsgCreate || m.Kind == api.MsgCreate2 {
		m.Input = pick(r, r.code(true), pick(r, inits(true)...))
	}
	return m
}

// 17.2 to P17.6: messages do what the model does, one behind the other, within one another, in one transaction.
func TestModel(t *testing.T) {
	t.Parallel()
	for i := range 700 {
		r := row(i)
		accounts := r.world(true)
		s, z := begun(accounts...), begun(accounts...)
		for j := range 4 {
			m := r.message()
			what := fmt.Sprintf("world %d, message %d", i, j)
			got := do(s, m)
			p := &plain{s: z, e: newEnv()}
			want, ran := p.do(m)
			want.Deepest = slices.Max(append(ran, m.Depth))
			wantResult(t, what, got, want)
			wantText(t, what, stateText(s, contracts()...), stateText(z, contracts()...))
		}
		wantSame(t, fmt.Sprintf("world %d", i), s, z, contracts()...)
		if t.Failed() {
			return
		}
	}
}

// earlyErrors are those of creations that fail early; there are no balances here that could come to too much.
func earlyErrors() []api.Errno {
	return []api.Errno{api.ErrMsg, api.ErrDepth, api.ErrFunds, api.ErrNonce}
}

// P17.7: with an error all is as it was, but a nonce and a warm address.
func TestAllOrNothing(t *testing.T) {
	t.Parallel()
	failed := map[api.Errno]int{}
	for i := range 1200 {
		r := row(i + 10000)
		accounts := r.world(true)
		s, z := begun(accounts...), begun(accounts...)
		m := r.message()
		at := made(m, s.Nonce(m.From))
		got := do(s, m)
		if got.Err == api.OK {
			continue
		}
		failed[got.Err]++
		wantTrue(t, "nothing is made", got.Made == api.Address{})
		wantTrue(t, "nothing is told, unless it reverts", got.Err == api.ErrRevert || len(got.Out) == 0)
		if m.Kind >= api.MsgCreate && !slices.Contains(earlyErrors(), got.Err) {
			begins(z, m, at)
		}
		wantSame(t, fmt.Sprintf("world %d, error %d", i, got.Err), s, z, append(contracts(), at)...)
		if t.Failed() {
			return
		}
	}
	for _, e := range []api.Errno{
		api.ErrMsg, api.ErrDepth, api.ErrFunds, api.ErrRevert, api.ErrPre, api.ErrOpcode, api.ErrGas, api.ErrStatic, api.ErrCode,
	} {
		wantTrue(t, fmt.Sprintf("error %d came about", e), failed[e] > 0)
	}
}

// sum is what all accounts have together, those that a state has changed and the others.
func sum(l []api.Account, s *state.State) *big.Int {
	n := new(big.Int)
	changed := map[api.Address]bool{}
	for _, c := range s.Changes() {
		changed[c.Address] = true
		n.Add(n, bigOf(c.Balance))
	}
	for _, a := range l {
		if !changed[a.Address] {
			n.Add(n, bigOf(a.Balance))
		}
	}
	return n
}

// P17.8: the sum of all balances stays.
func TestNothingIsMade(t *testing.T) {
	t.Parallel()
	moved := 0
	for i := range 1200 {
		r := row(i + 20000)
		accounts := r.world(false)
		s := begun(accounts...)
		before := sum(accounts, s)
		for range 3 {
			m := r.message()
			if m.Kind == api.MsgCreate || m.Kind == api.MsgCreate2 {
				m.Input = pick(&r, r.code(false), pick(&r, inits(false)...))
			}
			do(s, m)
		}
		if after := sum(accounts, s); before.Cmp(after) != 0 {
			t.Fatalf("world %d: %d ahead, %d behind", i, before, after)
		}
		for _, a := range accounts {
			if s.Balance(a.Address) != a.Balance {
				moved++
			}
		}
	}
	wantTrue(t, "balances have changed at all", moved > 300)
}

// P17.8: a fresh account that destroys itself in favour of itself lets go what it has, once; where that is taken back nothing is let go.
func TestLetGo(t *testing.T) {
	accounts := append(noCode(), coded(target, with(0xf1, w(90000), of(call.Made(sender, firstNonce)), w(40), w(0), w(0), w(0), w(0)), revert(0)))
	s := begun(accounts...)
	before := sum(accounts, s)
	m := creating(giving(raw(0x30, 0xff)))
	at := do(s, m).Made
	wantText(t, "it is there", sum(accounts, s).String(), before.String())
	wantErr(t, "within what is taken back", do(s, to(api.MsgCall)), api.ErrRevert)
	wantText(t, "it is taken back", sum(accounts, s).String(), before.String())
	x := to(api.MsgCall)
	x.To, x.Value = at, w(5)
	wantErr(t, "it destroys itself", do(s, x), api.OK)
	wantText(t, "what it had is let go", sum(accounts, s).String(), new(big.Int).Sub(before, big.NewInt(8)).String())
	x.To = target
	wantWord(t, "who is not fresh keeps all", s.Balance(target), w(100))
}

// P17.9: no gas comes about, and instructions are no more than the gas, and two for each message.
func TestItEnds(t *testing.T) {
	t.Parallel()
	for i := range 1200 {
		r := row(i + 30000)
		s, z := begun(r.world(true)...), row(i+30000)
		m := r.message()
		got := do(s, m)
		p := &plain{s: begun(z.world(true)...), e: newEnv()}
		p.do(m)
		wantTrue(t, fmt.Sprintf("world %d: the gas", i), got.Gas <= m.Gas)
		wantTrue(t, fmt.Sprintf("world %d: the instructions", i), got.Steps <= int(min(m.Gas, api.MaxGas))+2*p.messages)
	}
}

// P17.9: code that does nothing but call itself, or create by itself, comes to an end with all gas that there can be.
func TestTheWorstEnds(t *testing.T) {
	t.Parallel()
	for what, code := range map[string][]byte{
		"calls in a loop":     raw(0x5b, 0x5f, 0x5f, 0x5f, 0x5f, 0x5f, 0x30, 0x5a, 0xf1, 0x50, 0x5f, 0x56),
		"calls of nobody":     raw(0x5b, 0x5f, 0x5f, 0x5f, 0x5f, 0x5f, 0x5f, 0x5f, 0xf1, 0x50, 0x5f, 0x56),
		"delegates in a loop": raw(0x5b, 0x5f, 0x5f, 0x5f, 0x5f, 0x30, 0x5a, 0xf4, 0x50, 0x5f, 0x56),
		"creations in a loop": raw(0x5b, 0x38, 0x5f, 0x5f, 0x39, 0x38, 0x5f, 0x5f, 0xf0, 0x50, 0x5f, 0x56),
	} {
		m := to(api.MsgCall)
		m.Gas = 10000000
		r := do(over(coded(target, code)), m)
		wantErr(t, what, r, api.ErrGas)
		wantTrue(t, what+": it is bounded", r.Gas == 0 && r.Steps > 1000 && r.Steps < int(m.Gas))
	}
}

// P17.10: a static message changes nothing, but what is warm and touched.
func TestStatic(t *testing.T) {
	t.Parallel()
	well := 0
	for i := range 1500 {
		r := row(i + 40000)
		accounts := r.world(true)
		s := begun(accounts...)
		s.SetSlot(bare, w(1), w(1))
		before := stateText(s, contracts()...)
		m := r.message()
		if m.Kind > api.MsgStatic {
			m.Kind = api.MsgStatic
		}
		m.Static = m.Kind != api.MsgStatic
		if do(s, m).Err == api.OK {
			well++
		}
		wantText(t, fmt.Sprintf("world %d, kind %d", i, m.Kind), stateText(s, contracts()...), before)
		if t.Failed() {
			return
		}
	}
	wantTrue(t, "some go well", well > 200)
}

// P17.10: a contract that isn't there is not made by a static call, nor by a call within one, nor is who calls.
func TestStaticMakesNobody(t *testing.T) {
	for _, op := range []byte{0xf1, 0xf2, 0xf4, 0xfa} {
		for _, from := range []api.Address{sender, absent, empty} {
			for _, a := range []api.Address{echo, absent, empty} {
				for _, k := range calls() {
					s, m := over(coded(target, calling(op, a, 0, 90000, 0))), to(k)
					before := stateText(s)
					m.From, m.Value, m.Static = from, w(0), k != api.MsgStatic
					what := fmt.Sprintf("opcode %x, kind %d, from %x to %x", op, k, from, a)
					wantErr(t, what, do(s, m), api.OK)
					wantText(t, what, stateText(s), before)
					m.To = a
					wantErr(t, what+" itself", do(s, m), api.OK)
					wantText(t, what+" itself", stateText(s), before)
				}
			}
		}
	}
}
