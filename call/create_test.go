package call_test

import (
	"fmt"
	"math"
	"slices"
	"testing"

	"cairn/api"
	"cairn/gas"
	"cairn/state"
)

// both does something for a creation of each kind.
func both(t *testing.T, do func(t *testing.T, msg func(init ...[]byte) api.Msg)) {
	t.Run("CREATE", func(t *testing.T) { do(t, creating) })
	t.Run("CREATE2", func(t *testing.T) { do(t, creating2) })
}

// begins does to a state what no creation, but one that fails early, leaves undone.
func begins(s *state.State, m api.Msg, at api.Address) {
	s.SetNonce(m.From, s.Nonce(m.From)+1)
	s.Warm(at)
}

// makes does to a state what a creation of an account of that code does.
func makes(s *state.State, m api.Msg, at api.Address, code []byte) {
	begins(s, m, at)
	s.Create(at)
	s.SetNonce(at, 1)
	s.Sub(m.From, m.Value)
	s.Add(at, m.Value)
	s.SetCode(at, code)
}

// P17.4: an account is made of what init code returns: its code, nonce, balance; who made it, what is warm, the gas that is left.
func TestCreates(t *testing.T) {
	code := seen()
	both(t, func(t *testing.T, msg func(...[]byte) api.Msg) {
		for _, value := range []uint64{0, 3, had} {
			m := msg(giving(code))
			m.Value, m.Depth = w(value), 4
			at := made(m, firstNonce)
			s, z := over(), over()
			r := do(s, m)
			cost := enough - r.Gas - gas.Deposit(uint64(len(code)))
			wantResult(t, "it", r, api.Result{Gas: r.Gas, Made: at, Steps: r.Steps, Deepest: 4})
			words := uint64(len(code)+31) / 32
			wantNumber(t, "what init code took", cost, words*9+6+3*words) // two pushes and a store a word, two pushes ahead of RETURN, the memory
			wantNumber(t, "its instructions", uint64(r.Steps), words*3+3)
			wantBytes(t, "the code", s.Code(at), code)
			wantNumber(t, "its nonce", s.Nonce(at), 1)
			wantNumber(t, "the nonce of who made it", s.Nonce(sender), firstNonce+1)
			wantWord(t, "its balance", s.Balance(at), w(value))
			wantWord(t, "the balance of who made it", s.Balance(sender), w(had-value))
			wantTrue(t, "it is fresh", s.Fresh(at))
			makes(z, m, at, code)
			wantSame(t, "it", s, z, at)
		}
	})
}

// P17.4: what init code sees: itself, who makes it, the value, no input, Input as its code, an account without code as yet.
func TestInitSees(t *testing.T) {
	both(t, func(t *testing.T, msg func(...[]byte) api.Msg) {
		m := msg(telling(
			raw(0x5a), raw(0x30), raw(0x33), raw(0x34), raw(0x36), with(0x35, w(0)), raw(0x38), raw(0x47), raw(0x30, 0x3b), raw(0x32), with(0x51, w(0)),
		))
		s := over()
		r := do(s, m)
		wantErr(t, "init code", r, api.OK)
		at := made(m, firstNonce)
		got := api.Result{Out: s.Code(at)}
		wantWords(
			t, "what it saw", got, w(enough-2), of(at), of(sender), w(3), w(0), w(0), w(uint64(len(m.Input))), w(3), w(0), of(newEnv().Origin), w(enough-2),
		)
	})
}

// P17.4: the address itself is warm from the beginning.
func TestInitIsWarm(t *testing.T) {
	both(t, func(t *testing.T, msg func(...[]byte) api.Msg) {
		m := msg(raw(0x30, 0x31, 0x00)) // ADDRESS, BALANCE, STOP
		wantResult(t, "it", do(over(), m), api.Result{Gas: enough - 102, Made: made(m, firstNonce), Steps: 3})
	})
}

// P17.4: code that returns nothing, stops, ends, or isn't there makes an account without code.
func TestCreatesWithoutCode(t *testing.T) {
	both(t, func(t *testing.T, msg func(...[]byte) api.Msg) {
		for what, x := range map[string]struct {
			init  []byte
			cost  uint64
			steps int
		}{
			"none": {nil, 0, 1}, "STOP": {stop(), 0, 1}, "an end": {raw(0x5f), 2, 2}, "nothing returned": {raw(0x5f, 0x5f, 0xf3), 4, 3},
		} {
			m := msg(x.init)
			at := made(m, firstNonce)
			s, z := over(), over()
			wantResult(t, what, do(s, m), api.Result{Gas: enough - x.cost, Made: at, Steps: x.steps})
			makes(z, m, at, nil)
			wantSame(t, what, s, z, at)
			wantTrue(t, what+": it stays", s.Exists(at))
			m.Gas = x.cost
			wantResult(t, what+", no gas left", do(over(), m), api.Result{Made: at, Steps: x.steps})
		}
	})
}

// P17.4: the greatest nonce but one can be left, the greatest one can't; who isn't there has the nonce 0.
func TestNonces(t *testing.T) {
	both(t, func(t *testing.T, msg func(...[]byte) api.Msg) {
		for _, nonce := range []uint64{0, 1, math.MaxUint64 - 1} {
			s := begun(api.Account{Address: sender, Nonce: nonce, Balance: w(had)})
			m := msg(giving(raw(0)))
			r := do(s, m)
			wantErr(t, fmt.Sprintf("nonce %d", nonce), r, api.OK)
			wantAddress(t, fmt.Sprintf("nonce %d", nonce), r.Made, made(m, nonce))
			wantNumber(t, "the nonce then", s.Nonce(sender), nonce+1)
		}
		last := api.Account{Address: sender, Nonce: math.MaxUint64, Balance: w(had)}
		m := msg(giving(raw(0)))
		m.Depth = 3
		s := begun(last)
		wantResult(t, "the greatest nonce", do(s, m), api.Result{Err: api.ErrNonce, Gas: enough, Deepest: 3})
		wantSame(t, "the greatest nonce", s, begun(last), made(m, math.MaxUint64), made(m, 0))
		m.From, m.Value = absent, w(0)
		s = over()
		wantAddress(t, "from nobody", do(s, m).Made, made(m, 0))
		wantNumber(t, "the nonce of who was nobody", s.Nonce(absent), 1)
	})
}

// P17.4: one creation behind the other is at another address; by the same salt and code it collides.
func TestTwice(t *testing.T) {
	s, m := over(), creating(giving(raw(0)))
	wantAddress(t, "the first", do(s, m).Made, made(m, firstNonce))
	wantAddress(t, "the second", do(s, m).Made, made(m, firstNonce+1))
	m = creating2(giving(raw(0)))
	wantAddress(t, "by a salt", do(s, m).Made, made(m, 0))
	wantResult(t, "by the same salt", do(s, m), api.Result{Err: api.ErrCollision})
	wantNumber(t, "the nonce", s.Nonce(sender), firstNonce+4)
	m.Salt = w(1)
	wantAddress(t, "by another salt", do(s, m).Made, made(m, 0))
}

// P17.4: an address that is used, by a nonce or by code: all gas is gone, the nonce is greater, the address warm, and nothing else is done.
func TestCollisions(t *testing.T) {
	both(t, func(t *testing.T, msg func(...[]byte) api.Msg) {
		m := msg(storing(0, 1))
		at := made(m, firstNonce)
		for what, there := range map[string]api.Account{
			"a nonce": {Nonce: 1}, "the greatest nonce": {Nonce: math.MaxUint64}, "code": {Code: []byte{0}},
			"both": {Nonce: 1, Code: []byte{0}, Balance: w(5), Slots: []api.Slot{{Key: w(0), Value: w(5)}}},
		} {
			there.Address = at
			s, z := over(there), over(there)
			m.Depth = 6
			wantResult(t, what, do(s, m), api.Result{Err: api.ErrCollision, Deepest: 6})
			begins(z, m, at)
			wantSame(t, what, s, z, at)
		}
	})
}

// P17.4: an address that has a balance or storage alone is not used: its balance stays, its storage is gone.
func TestNoCollision(t *testing.T) {
	both(t, func(t *testing.T, msg func(...[]byte) api.Msg) {
		m := msg(with(0x54, w(0)), raw(0x60, 0x01, 0x55), stop()) // slot 1 becomes what slot 0 is
		at := made(m, firstNonce)
		for what, there := range map[string]api.Account{
			"nothing": {}, "a balance": {Balance: w(5)}, "storage": {Slots: []api.Slot{{Key: w(0), Value: w(5)}, {Key: w(1), Value: w(6)}}},
		} {
			there.Address = at
			s := over(there)
			wantErr(t, what, do(s, m), api.OK)
			wantWord(t, what+": its balance", s.Balance(at), w(there.Balance[0]+3))
			wantWord(t, what+": a slot", s.Slot(at, w(0)), w(0))
			wantWord(t, what+": another slot", s.Slot(at, w(1)), w(0))
			wantNumber(t, what+": its nonce", s.Nonce(at), 1)
		}
	})
}

// P17.4: a balance that would come to 2^256: no code runs, all gas is left; the nonce stays greater, the address warm.
func TestCreatesTooMuch(t *testing.T) {
	nearly := most()
	nearly[0] -= 2
	both(t, func(t *testing.T, msg func(...[]byte) api.Msg) {
		for value, want := range map[uint64]api.Errno{0: api.OK, 2: api.OK, 3: api.ErrFunds, had: api.ErrFunds} {
			m := msg(storing(0, 1))
			m.Value, m.Depth = w(value), 8
			at := made(m, firstNonce)
			there := api.Account{Address: at, Balance: nearly, Slots: []api.Slot{{Key: w(0), Value: w(5)}}}
			s, z := over(there), over(there)
			r := do(s, m)
			what := fmt.Sprintf("value %d", value)
			wantErr(t, what, r, want)
			if want != api.OK {
				wantResult(t, what, r, api.Result{Err: api.ErrFunds, Gas: enough, Deepest: 8})
				begins(z, m, at)
				wantSame(t, what, s, z, at)
			}
		}
	})
}

// noughts is init code that returns so many noughts.
func noughts(n int) []byte { return with(0xf3, w(0), w(uint64(n))) }

// wantTakenBack sends a creation to a state, and holds what comes of it against an error that takes all back that can be.
func wantTakenBack(t *testing.T, what string, m api.Msg, want api.Result) {
	t.Helper()
	s, z := over(), over()
	at := made(m, firstNonce)
	wantResult(t, what, do(s, m), want)
	begins(z, m, at)
	wantSame(t, what, s, z, at)
}

// P17.4: as much code as there may be, and one byte more; that costs gas, or it is wrong, before it is too dear.
func TestMostCode(t *testing.T) {
	both(t, func(t *testing.T, msg func(...[]byte) api.Msg) {
		m := msg(noughts(api.MaxCode))
		m.Gas = api.MaxGas
		s := over()
		r := do(s, m)
		wantErr(t, "the most", r, api.OK)
		wantNumber(t, "its length", uint64(len(s.Code(r.Made))), api.MaxCode)
		wantNumber(t, "its gas", r.Gas, api.MaxGas-6-gas.Memory(api.MaxCode)-gas.Deposit(api.MaxCode))
		for _, left := range []uint64{api.MaxGas, 10000} {
			m = msg(noughts(api.MaxCode + 1))
			m.Gas = left
			wantTakenBack(t, "one more", m, api.Result{Err: api.ErrCode, Steps: 3})
		}
	})
}

// P17.4: no code begins with ef; behind its first byte that may stand.
func TestFirstByte(t *testing.T) {
	both(t, func(t *testing.T, msg func(...[]byte) api.Msg) {
		for _, code := range [][]byte{{0xef}, {0xef, 0}, {0xef, 0xef, 0xef}, append([]byte{0xef}, seen()...)} {
			m := msg(giving(code))
			steps := 3*((len(code)+31)/32) + 3
			wantTakenBack(t, fmt.Sprintf("%x", code), m, api.Result{Err: api.ErrCode, Steps: steps})
			m.Gas = 12 + 3*uint64(steps) + 3*uint64(len(code))
			wantTakenBack(t, fmt.Sprintf("%x, too dear as well", code), m, api.Result{Err: api.ErrCode, Steps: steps})
		}
		for _, code := range [][]byte{{0xee}, {0xf0}, {0, 0xef}, {0xfe, 0xef}, {0x0f}, {0xe0}} {
			s, m := over(), msg(giving(code))
			r := do(s, m)
			wantErr(t, fmt.Sprintf("%x", code), r, api.OK)
			wantBytes(t, "the code", s.Code(r.Made), code)
		}
	})
}

// P17.4: code that costs just what is left, and code that costs one more.
func TestDeposit(t *testing.T) {
	both(t, func(t *testing.T, msg func(...[]byte) api.Msg) {
		for _, n := range []int{1, 2, 33, 1000, api.MaxCode} {
			m := msg(storing(0, 1), noughts(n))
			first := uint64(6 + 22100 + 6)
			cost := first + gas.Memory(uint64(n)) + gas.Deposit(uint64(n))
			m.Gas = cost
			wantResult(t, fmt.Sprintf("%d bytes, just enough", n), do(over(), m), api.Result{Made: made(m, firstNonce), Steps: 6})
			m.Gas = cost + 1
			wantNumber(t, "one more than enough", do(over(), m).Gas, 1)
			for _, less := range []uint64{1, gas.Deposit(uint64(n))} {
				m.Gas = cost - less
				wantTakenBack(t, fmt.Sprintf("%d bytes, %d too little", n, less), m, api.Result{Err: api.ErrGas, Steps: 6})
			}
		}
	})
}

// P17.4, P17.5: init code that takes itself back tells why, and what gas is left; one that fails leaves nothing.
func TestInitFails(t *testing.T) {
	both(t, func(t *testing.T, msg func(...[]byte) api.Msg) {
		changes := slices.Concat(storing(0, 1), with(0xa0, w(0), w(0)), with(0x5d, w(1), w(2)), calling(0xf1, bare, 2, 0, 0))
		s := over()
		wantErr(t, "it goes well", do(s, msg(changes)), api.OK)
		wantWord(t, "what went to another account", s.Balance(bare), w(9))
		m := msg(changes, with(0x52, w(0), w(0xabcd)), with(0xfd, w(30), w(2)))
		m.Depth = 2
		r := do(over(), m)
		wantTrue(t, "gas is left", r.Gas > 0 && r.Gas < enough)
		wantTakenBack(t, "a revert", m, api.Result{Err: api.ErrRevert, Gas: r.Gas, Out: []byte{0xab, 0xcd}, Steps: r.Steps, Deepest: 2})
		m = msg(changes, fault())
		wantTakenBack(t, "a fault", m, api.Result{Err: api.ErrOpcode, Steps: 18})
		m = msg(raw(0x5f, 0x56))
		wantTakenBack(t, "a jump to nowhere", m, api.Result{Err: api.ErrJump, Steps: 2})
		m = msg(raw(0x50))
		wantTakenBack(t, "no stack", m, api.Result{Err: api.ErrUnder, Steps: 1})
		m = msg(noughts(1))
		m.Gas = 8
		wantTakenBack(t, "no gas", m, api.Result{Err: api.ErrGas, Steps: 3})
	})
}

// P17.4: init code that destroys itself makes an account without code, which is gone at the end; its balance goes where it said.
func TestInitDestroysItself(t *testing.T) {
	both(t, func(t *testing.T, msg func(...[]byte) api.Msg) {
		m := msg(destroy(bare))
		at := made(m, firstNonce)
		s := over()
		wantResult(t, "to another", do(s, m), api.Result{Gas: enough - 3 - 5000 - 2600, Made: at, Steps: 2})
		wantWord(t, "its balance", s.Balance(at), w(0))
		wantWord(t, "the other's", s.Balance(bare), w(10))
		wantTrue(t, "it is there till the end", s.Exists(at) && s.Nonce(at) == 1 && len(s.Code(at)) == 0)
		s.End()
		wantTrue(t, "and gone then", !s.Exists(at))
		wantNumber(t, "the nonce of who made it", s.Nonce(sender), firstNonce+1)
		m = msg(raw(0x30, 0xff))
		at = made(m, firstNonce)
		s = over()
		wantResult(t, "to itself", do(s, m), api.Result{Gas: enough - 2 - 5000, Made: at, Steps: 2})
		wantWord(t, "what it had is nowhere", s.Balance(at), w(0))
		wantWord(t, "what who made it has", s.Balance(sender), w(had-3))
		s.End()
		wantTrue(t, "it is gone", !s.Exists(at))
	})
}

// P17.4: an account that was made can be called in the same transaction, destroys itself then, and is gone at the end; one of before stays.
func TestMadeAndDestroyed(t *testing.T) {
	s, m := over(coded(target, destroy(bare))), creating(giving(destroy(bare)))
	at := do(s, m).Made
	for _, a := range []api.Address{at, target} {
		x := to(api.MsgCall)
		x.To = a
		wantErr(t, "it destroys itself", do(s, x), api.OK)
		wantWord(t, "nothing is left of its balance", s.Balance(a), w(0))
	}
	wantWord(t, "who got it", s.Balance(bare), w(7+3+3+100+3))
	s.End()
	wantTrue(t, "the one that was made is gone", !s.Exists(at))
	wantTrue(t, "the one of before stays", s.Exists(target) && len(s.Code(target)) > 0)
}

// P17.4: the account is there, with its value, nonce and no code, while init code runs, and whoever is called sees that.
func TestWhileInitRuns(t *testing.T) {
	looks := telling(raw(0x33, 0x31), raw(0x33, 0x3b), raw(0x33, 0x3f)) // of the caller: balance, code's length, code's digest
	calls := slices.Concat(with(0xf1, w(100000), of(target), w(1), w(0), w(0), w(0), w(96)), returned(96))
	both(t, func(t *testing.T, msg func(...[]byte) api.Msg) {
		m := msg(calls)
		s := over(coded(target, looks))
		r := do(s, m)
		got := api.Result{Out: s.Code(r.Made)}
		wantWords(t, "what is seen", got, w(2), w(0), wordOf(unhex(t, "c5d2460186f7233c927e7db2dcc703c0e500b653ca82273b7bfad8045d85a470")))
	})
}
