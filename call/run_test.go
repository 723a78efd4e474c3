package call_test

import (
	"fmt"
	"slices"
	"testing"

	"cairn/api"
	"cairn/call"
	"cairn/machine"
	"cairn/state"
)

// relaying is code that goes on to return all that was returned to it.
func relaying(code ...[]byte) []byte {
	return append(slices.Concat(code...), 0x3d, 0x5f, 0x5f, 0x3e, 0x3d, 0x5f, 0xf3)
}

// either is code, at the beginning, that does one thing where a condition is 0 and another one where it isn't.
func either(condition, no, yes []byte) []byte {
	at := len(condition) + 4 + len(no)
	return slices.Concat(condition, raw(0x61, byte(at>>8), byte(at), 0x57), no, raw(0x5b), yes)
}

// P17.5: how code ends, and what comes of it.
func TestEnds(t *testing.T) {
	lay := with(0x52, w(0), w(0xabcd))
	for what, x := range map[string]struct {
		code []byte
		want api.Result
	}{
		"STOP":              {stop(), api.Result{Gas: enough, Steps: 1}},
		"the end":           {raw(0x5f), api.Result{Gas: enough - 2, Steps: 2}},
		"RETURN":            {slices.Concat(lay, with(0xf3, w(30), w(2))), api.Result{Gas: enough - 18, Out: []byte{0xab, 0xcd}, Steps: 6}},
		"RETURN of nothing": {raw(0x5f, 0x5f, 0xf3), api.Result{Gas: enough - 4, Steps: 3}},
		"REVERT":            {slices.Concat(lay, with(0xfd, w(30), w(2))), api.Result{Err: api.ErrRevert, Gas: enough - 18, Out: []byte{0xab, 0xcd}, Steps: 6}},
		"REVERT of nothing": {raw(0x5f, 0x5f, 0xfd), api.Result{Err: api.ErrRevert, Gas: enough - 4, Steps: 3}},
		"no opcode":         {raw(0xfe), api.Result{Err: api.ErrOpcode, Steps: 1}},
		"no stack":          {raw(0x5f, 0x01), api.Result{Err: api.ErrUnder, Steps: 2}},
		"too much stack":    {slices.Repeat(raw(0x5f), 1025), api.Result{Err: api.ErrOver, Steps: 1025}},
		"no place":          {raw(0x5f, 0x56), api.Result{Err: api.ErrJump, Steps: 2}},
		"no data":           {raw(0x60, 1, 0x5f, 0x5f, 0x3e), api.Result{Err: api.ErrData, Steps: 4}},
		"no gas":            {with(0x51, most()), api.Result{Err: api.ErrGas, Steps: 2}},
		"for ever":          {raw(0x5b, 0x5f, 0x56), api.Result{Err: api.ErrGas, Steps: 545456}},
		"SELFDESTRUCT":      {destroy(bare), api.Result{Gas: enough - 7603, Steps: 2}},
	} {
		for _, k := range []api.MsgKind{api.MsgCall, api.MsgCode, api.MsgDelegate} {
			s := over(coded(target, x.code))
			r := do(s, to(k))
			wantResult(t, what, r, x.want)
			if x.want.Err != api.OK {
				wantTrue(t, what+": nothing has become of anything", len(s.Changes()) == 0 && s.Exists(empty))
			}
		}
	}
}

// P17.5: whose code, who calls, with which value and input: as each opcode asks, from a frame of each kind.
func TestAsked(t *testing.T) {
	helps := telling(raw(0x5a), raw(0x30), raw(0x33), raw(0x34), raw(0x36), with(0x35, w(0)), raw(0x32), raw(0x43), with(0x40, w(998)), with(0x49, w(1)))
	for _, k := range []api.MsgKind{api.MsgCall, api.MsgCode, api.MsgDelegate} {
		self := target
		if k != api.MsgCall {
			self = sender
		}
		for _, x := range []struct {
			op           byte
			self, caller api.Address
			value        uint64
			gas          uint64
		}{
			{0xf1, helper, self, 2, 52300}, {0xf2, self, self, 2, 52300}, {0xf4, self, sender, 3, 50000}, {0xfa, helper, self, 0, 50000},
		} {
			if k == api.MsgDelegate && x.op == 0xf4 {
				x.caller = bare
			}
			code := relaying(with(0x52, w(0), api.Word{3: 0x0102030405060708}), calling(x.op, helper, 2, 50000, 4))
			r := do(over(coded(target, code), coded(helper, helps)), to(k))
			wantWords(
				t, fmt.Sprintf("kind %d, opcode %x", k, x.op), r, w(x.gas-2), of(x.self), of(x.caller), w(x.value), w(4), api.Word{3: 0x0102030400000000},
				of(newEnv().Origin), w(1000), wordOf(newEnv().Hashes[1][:]), wordOf(newEnv().Blobs[1][:]),
			)
		}
	}
}

// P17.5: what comes of a message within is replied: whether it went well, what it returned, the gas that it left.
func TestReplied(t *testing.T) {
	for what, x := range map[string]struct {
		code      []byte
		ok, bytes uint64
		used      uint64
	}{
		"STOP": {stop(), 1, 0, 0}, "RETURN": {returned(33), 1, 33, 6 + 6}, "REVERT": {revert(65), 0, 65, 6 + 9}, "a fault": {fault(), 0, 0, 50000},
		"no gas": {with(0x51, most()), 0, 0, 50000}, "no code": {nil, 1, 0, 0},
	} {
		for _, op := range []byte{0xf1, 0xf2, 0xf4, 0xfa} {
			code := telling(calling(op, helper, 0, 50000, 0), raw(0x3d), raw(0x5a))
			pushes := uint64(21)
			if op == 0xf4 || op == 0xfa {
				pushes = 18
			}
			r := do(over(coded(target, code), coded(helper, x.code)), to(api.MsgCall))
			wantWords(t, fmt.Sprintf("%s, opcode %x", what, op), r, w(x.ok), w(x.bytes), w(enough-pushes-2600-x.used-9-11-2))
		}
	}
}

// P17.5: where a message within fails early all the gas that was handed on comes back.
func TestRepliedEarly(t *testing.T) {
	for what, x := range map[string]struct {
		value, depth uint64
		ok           uint64
	}{"as it may be": {100, 1023, 1}, "no funds": {101, 0, 0}, "too deep": {0, 1024, 0}} {
		for _, op := range []byte{0xf1, 0xf2} {
			paid := uint64(21 + 2600)
			if x.value > 0 {
				paid += 9000 - 2300 // what is handed on for nothing comes back
			}
			m := to(api.MsgCall)
			m.Value, m.Depth = w(0), int(x.depth)
			r := do(over(coded(target, telling(calling(op, bare, x.value, 50000, 0), raw(0x5a)))), m)
			wantWords(t, fmt.Sprintf("%s, opcode %x", what, op), r, w(x.ok), w(enough-paid-9-2))
			wantNumber(t, what+": the depth", uint64(r.Deepest), x.depth)
		}
	}
}

// P17.5: what may not change in a frame may not change in those within, whatever opcode asks for them.
func TestStaticWithin(t *testing.T) {
	third := api.Address{0: 0xee, 19: 0x27}
	for _, op := range []byte{0xf1, 0xf2, 0xf4, 0xfa} {
		for _, next := range []byte{0xf1, 0xf2, 0xf4, 0xfa} {
			for _, static := range []bool{false, true} {
				accounts := func() *state.State {
					return over(
						coded(target, telling(calling(op, helper, 0, 900000, 0))), coded(third, storing(0, 1)),
						coded(helper, either(calling(next, third, 0, 400000, 0), revert(0), stop())),
					)
				}
				m := to(api.MsgCall)
				m.Value, m.Static = w(0), static
				ok := w(1)
				if static || op == 0xfa || next == 0xfa {
					ok = w(0)
				}
				wantWords(t, fmt.Sprintf("opcodes %x, %x, static %v", op, next, static), do(accounts(), m), ok)
				m.Kind = api.MsgStatic
				wantWords(t, fmt.Sprintf("opcodes %x, %x, a static call", op, next), do(accounts(), m), w(0))
			}
		}
	}
}

// P17.5: behind a static call code may change things again; within one nothing can be paid or created.
func TestStaticAndBack(t *testing.T) {
	s := over(coded(target, calling(0xfa, helper, 0, 100000, 0), storing(1, 4)), coded(helper, stop()))
	wantErr(t, "behind a static call", do(s, to(api.MsgCall)), api.OK)
	wantWord(t, "what it stored", s.Slot(target, w(1)), w(4))
	for what, code := range map[string][]byte{
		"a value": calling(0xf1, bare, 1, 0, 0), "CREATE": making(0xf0, 0, stop()), "CREATE2": making(0xf5, 0, stop()), "SELFDESTRUCT": destroy(bare),
	} {
		m := to(api.MsgStatic)
		wantErr(t, what, do(over(coded(target, code)), m), api.ErrStatic)
		m = to(api.MsgDelegate)
		m.Static = true
		wantErr(t, what, do(over(coded(target, code)), m), api.ErrStatic)
	}
	m := to(api.MsgStatic)
	wantErr(t, "CALLCODE with a value, which goes nowhere", do(over(coded(target, calling(0xf2, bare, 1, 0, 0))), m), api.OK)
}

// asWord is the address, as a word, at which code at target, or who delegates to it, creates.
func asWord(op byte, from api.Address, nonce uint64, init []byte) api.Word {
	if op == 0xf5 {
		return of(call.Made2(from, api.Word{77, 0, 0, 78}, init))
	}
	return of(call.Made(from, nonce))
}

// P17.5: code creates: from itself, with its value; it gets the address, or 0, and what was returned, if that was taken back.
func TestCreatesWithin(t *testing.T) {
	for _, op := range []byte{0xf0, 0xf5} {
		for what, x := range map[string]struct {
			init  []byte
			ok    bool
			bytes uint64
		}{
			"code": {giving(raw(0x5b)), true, 0}, "no code": {stop(), true, 0}, "nothing": {nil, true, 0}, "a revert": {revert(5), false, 5},
			"a fault": {fault(), false, 0}, "wrong code": {giving(raw(0xef)), false, 0}, "too much code": {noughts(api.MaxCode + 1), false, 0},
		} {
			for _, k := range []api.MsgKind{api.MsgCall, api.MsgDelegate} {
				from, nonce, m := target, uint64(1), to(k)
				if k == api.MsgDelegate {
					from, nonce = sender, firstNonce
				}
				s := over(coded(target, telling(making(op, 2, x.init), raw(0x3d))))
				at := asWord(op, from, nonce, x.init)
				want := api.Word{}
				if x.ok {
					want = at
				}
				wantWords(t, what, do(s, m), want, w(x.bytes))
				wantNumber(t, what+": the nonce", s.Nonce(from), nonce+1)
				a := machine.Address(at)
				wantTrue(t, what+": it is there", s.Exists(a) == x.ok)
				wantTrue(t, what+": it is warm", s.Warm(a))
				if x.ok {
					wantWord(t, what+": its balance", s.Balance(a), w(2))
				}
			}
		}
	}
}

// P17.5, P17.4: where a creation within fails early its gas comes back and no nonce is greater; one that collides takes all of it.
func TestCreatesWithinEarly(t *testing.T) {
	init := stop()
	for _, op := range []byte{0xf0, 0xf5} {
		there := call.Made(target, 1)
		if op == 0xf5 {
			there = call.Made2(target, api.Word{77, 0, 0, 78}, init)
		}
		for what, x := range map[string]struct {
			nonce, value uint64
			depth        int
			more         []api.Account
			ok, lost     bool
		}{
			"as it may be": {1, 100, 1023, nil, true, false}, "no funds": {1, 101, 0, nil, false, false}, "too deep": {1, 0, 1024, nil, false, false},
			"the last nonce": {1<<64 - 1, 0, 0, nil, false, false}, "used": {1, 0, 0, []api.Account{{Address: there, Nonce: 1}}, false, true},
		} {
			account := coded(target, either(making(op, x.value, init), stop(), fault()))
			account.Nonce = x.nonce
			s, m := over(append(x.more, account)...), to(api.MsgCall)
			m.Value, m.Depth = w(0), x.depth
			r := do(s, m)
			wantTrue(t, what+": it is made", (r.Err == api.ErrOpcode) == x.ok)
			if x.ok {
				continue
			}
			wantErr(t, what, r, api.OK)
			wantTrue(t, what+": the gas", (r.Gas < enough/2) == x.lost && (x.lost || r.Gas > enough-40000))
			nonce := x.nonce
			if x.lost {
				nonce++
			}
			wantNumber(t, what+": the nonce", s.Nonce(target), nonce)
			wantTrue(t, what+": what is warm", s.Warm(there) == x.lost)
		}
	}
}

// P17.5: what is within and fails is taken back, what is around it or went well stays; of one that fails nothing within stays.
func TestWhatIsTakenBack(t *testing.T) {
	third := api.Address{0: 0xee, 19: 0x27}
	for what, end := range map[string][]byte{"a revert": revert(0), "a fault": fault()} {
		both := slices.Concat(storing(1, 5), calling(0xf1, helper, 1, 300000, 0), calling(0xf1, third, 2, 300000, 0), storing(2, 6))
		s := over(coded(target, both), coded(helper, storing(3, 7)), coded(third, storing(3, 8), calling(0xf1, bare, 4, 1000, 0), end))
		wantErr(t, what+" within", do(s, to(api.MsgCall)), api.OK)
		wantWord(t, what+": around it, ahead", s.Slot(target, w(1)), w(5))
		wantWord(t, what+": around it, behind", s.Slot(target, w(2)), w(6))
		wantWord(t, what+": beside it", s.Slot(helper, w(3)), w(7))
		wantWord(t, what+": within it", s.Slot(third, w(3)), w(0))
		wantWord(t, what+": its value", s.Balance(third), w(100))
		wantWord(t, what+": a value within it", s.Balance(bare), w(7))
		wantWord(t, what+": what is left", s.Balance(target), w(100+3-1))
		code := slices.Concat(both, making(0xf0, 1, giving(raw(0x5b))), calling(0xf1, echo, 1, 50000, 0), end)
		accounts := func() *state.State {
			return over(coded(target, code), coded(helper, storing(3, 7)), coded(third, storing(3, 8)))
		}
		s = accounts()
		r := do(s, to(api.MsgCall))
		wantTrue(t, what+" around", r.Err == api.ErrRevert || r.Err == api.ErrOpcode)
		wantSame(t, what+" around", s, accounts())
	}
}

// P17.5: a message within that fails hands nothing back to who is around, who goes on with the gas that it kept.
func TestFaultWithin(t *testing.T) {
	s := over(coded(target, calling(0xf1, helper, 0, 1<<40, 0), storing(1, 5)), coded(helper, raw(0x5b, 0x5f, 0x56)))
	r := do(s, to(api.MsgCall))
	rest := uint64(enough-21-2600) / 64
	wantResult(t, "a loop that never ends", r, api.Result{Gas: rest - 22106, Steps: r.Steps, Deepest: 1})
	wantWord(t, "what is done behind it", s.Slot(target, w(1)), w(5))
}

// P17.5: code calls back into the code that called it, which sees what it did itself, and is seen.
func TestCallsBack(t *testing.T) {
	first := slices.Concat(storing(1, 1), calling(0xf1, helper, 0, 900000, 0), with(0x54, w(2)), stored(3), stop())
	again := slices.Concat(storing(2, 5), stop())
	code := either(with(0x54, w(1)), first, again)
	for what, x := range map[string]struct {
		end  []byte
		want uint64
	}{"it goes well": {stop(), 5}, "it is taken back": {revert(0), 0}} {
		s := over(coded(target, code), coded(helper, calling(0xf1, target, 0, 400000, 0), x.end))
		wantErr(t, what, do(s, to(api.MsgCall)), api.OK)
		wantWord(t, what+": what was done ahead of it", s.Slot(target, w(1)), w(1))
		wantWord(t, what+": what calling back did", s.Slot(target, w(2)), w(x.want))
		wantWord(t, what+": what is seen of that", s.Slot(target, w(3)), w(x.want))
	}
}

// deeper is code that calls its own account by an opcode, and returns one more than what that returned.
func deeper(op byte) []byte {
	ask := with(op, most(), of(target), w(0), w(0), w(0), w(0), w(32))
	if op == 0xf4 || op == 0xfa {
		ask = with(op, most(), of(target), w(0), w(0), w(0), w(32))
	}
	return slices.Concat(ask, raw(0x50), telling(append(with(0x51, w(0)), raw(0x60, 1, 0x01)...)))
}

// P17.5, P17.2: calls within one another are as many as may be, and the next one fails.
func TestDeepest(t *testing.T) {
	for _, op := range []byte{0xf1, 0xf2, 0xf4, 0xfa} {
		for _, depth := range []int{api.MaxCalls - 300, api.MaxCalls - 1, api.MaxCalls} {
			m := to(api.MsgCall)
			m.From, m.Depth, m.Gas = target, depth, api.MaxGas
			r := do(over(coded(target, deeper(op))), m)
			wantWords(t, fmt.Sprintf("opcode %x from depth %d", op, depth), r, w(uint64(api.MaxCalls-depth+1)))
			wantNumber(t, "the greatest depth", uint64(r.Deepest), api.MaxCalls)
		}
	}
}

// P17.5: from the beginning calls come as deep as the gas goes, each handing on 63 of 64 parts.
func TestAsDeepAsGasGoes(t *testing.T) {
	code := slices.Concat(with(0xf1, most(), of(target), w(0), w(0), w(0), w(0), w(0)), stop())
	m := to(api.MsgCall)
	m.Gas = api.MaxGas
	r := do(over(coded(target, code)), m)
	deep, gas, warm := 0, uint64(api.MaxGas), uint64(2600)
	for gas >= 21+warm { // who can't pay for the call any more is the last one
		gas -= 21 + warm
		gas -= gas / 64
		warm = 100
		deep++
	}
	wantErr(t, "it", r, api.OK)
	wantNumber(t, "how deep it comes", uint64(r.Deepest), uint64(deep))
}

// P17.5: creations within one another are as many as may be.
func TestDeepestCreations(t *testing.T) {
	init := slices.Concat(raw(0x38, 0x5f, 0x5f, 0x39, 0x38, 0x5f, 0x5f, 0xf0), stop()) // it creates by all its own code
	m := creating(init)
	m.Value, m.Depth, m.Gas = w(0), api.MaxCalls-40, api.MaxGas
	s := over()
	r := do(s, m)
	wantErr(t, "it", r, api.OK)
	wantNumber(t, "how deep it comes", uint64(r.Deepest), api.MaxCalls)
	at := r.Made
	for i := range 40 {
		at = call.Made(at, 1)
		wantTrue(t, fmt.Sprintf("the one at depth %d", m.Depth+i+1), s.Exists(at))
	}
	wantNumber(t, "the nonce of the last, who could make none", s.Nonce(at), 1)
}

// P17.5: an account that was made in this transaction and destroys itself stays, where that is taken back.
func TestDestroyedAndBack(t *testing.T) {
	for what, x := range map[string]struct {
		end  []byte
		gone bool
	}{"it is taken back": {revert(0), false}, "it fails": {fault(), false}, "it goes well": {stop(), true}} {
		m := creating(giving(destroy(bare)))
		at := made(m, firstNonce)
		s := over(coded(target, calling(0xf1, at, 0, 50000, 0), x.end))
		wantErr(t, what, do(s, m), api.OK)
		do(s, to(api.MsgCall))
		wantWord(t, what+": the balance", s.Balance(at), map[bool]api.Word{true: {}, false: {3}}[x.gone])
		s.End()
		wantTrue(t, what, s.Exists(at) != x.gone)
	}
}

// P17.5: code that is longer than any that can be created is none that runs.
func TestLongCode(t *testing.T) {
	for _, k := range calls() {
		s := over(coded(target, make([]byte, api.MaxInit)))
		wantResult(t, "the longest", do(s, to(k)), api.Result{Gas: enough, Steps: 1})
		accounts := func() *state.State { return over(coded(target, make([]byte, api.MaxInit+1))) }
		s = accounts()
		wantResult(t, "one byte more", do(s, to(k)), api.Result{Err: api.ErrLong})
		wantSame(t, "one byte more", s, accounts())
	}
}
