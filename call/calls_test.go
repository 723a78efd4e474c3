package call_test

import (
	"fmt"
	"testing"

	"cairn/api"
	"cairn/pre"
	"cairn/state"
)

// P17.3: a call of an account that isn't there, without value, is nothing at all.
func TestNothingHasHappened(t *testing.T) {
	for _, static := range []bool{false, true} {
		for _, from := range []api.Address{sender, empty, absent} {
			s, m := over(), to(api.MsgCall)
			m.From, m.To, m.Value, m.Static, m.Depth = from, absent, w(0), static, 3
			what := fmt.Sprintf("static %v from %x", static, from)
			wantResult(t, what, do(s, m), api.Result{Gas: enough, Deepest: 3})
			wantNumber(t, what+": marks", uint64(s.Mark()), 0)
			wantSame(t, what, s, over())
		}
	}
}

// P17.3: with a value such an account is made; of other kinds it isn't.
func TestAccountThatIsNotThere(t *testing.T) {
	s, z := over(), over()
	m := to(api.MsgCall)
	m.To = absent
	wantResult(t, "with a value", do(s, m), api.Result{Gas: enough})
	z.Sub(sender, w(3))
	z.Add(absent, w(3))
	wantSame(t, "with a value", s, z)
	for _, k := range []api.MsgKind{api.MsgCode, api.MsgDelegate, api.MsgStatic} {
		for _, value := range []api.Word{{}, {3}} {
			s, m := over(), to(k)
			m.To, m.Value = absent, value
			what := fmt.Sprintf("kind %d, value %d", k, value[0])
			wantResult(t, what, do(s, m), api.Result{Gas: enough})
			wantSame(t, what, s, over())
		}
	}
}

// P17.3: a contract's account needs not be there; one that a call without value makes is empty, and gone at the end.
func TestContractThatIsNotThere(t *testing.T) {
	for _, value := range []uint64{0, 3} {
		s, z := over(), over()
		m := to(api.MsgCall)
		m.To, m.Value = echo, w(value)
		wantResult(t, "a contract", do(s, m), api.Result{Gas: enough - 18, Out: []byte{1, 2, 3}})
		wantTrue(t, "it is there", s.Exists(echo))
		z.Sub(sender, w(value))
		z.Add(echo, w(value))
		wantSame(t, "a contract", s, z)
		wantTrue(t, "it is there behind the end, if it has something", s.Exists(echo) == (value > 0))
	}
}

// P17.3: the value of a call goes to To; those of other kinds go nowhere.
func TestValueGoes(t *testing.T) {
	for _, k := range calls() {
		for _, a := range []api.Address{bare, empty, target, sender} {
			for _, value := range []uint64{0, 3, had} {
				s, z := over(coded(target, stop())), over(coded(target, stop()))
				m := to(k)
				m.To, m.Value = a, w(value)
				what := fmt.Sprintf("kind %d to %x, value %d", k, a, value)
				wantErr(t, what, do(s, m), api.OK)
				if k == api.MsgCall {
					z.Sub(sender, w(value))
					z.Add(a, w(value))
				}
				if k == api.MsgStatic {
					z.Touch(a)
				}
				wantSame(t, what, s, z)
			}
		}
	}
}

// P17.3: who is touched, and empty, is gone at the end: To of a call and of a static one, and From of a call.
func TestTouched(t *testing.T) {
	other := api.Address{0: 9, 19: 9}
	for _, x := range []struct {
		kind     api.MsgKind
		static   bool
		from, to bool
	}{
		{kind: api.MsgCall, from: true, to: true}, {kind: api.MsgCall, static: true, from: true, to: true}, {kind: api.MsgCode}, {kind: api.MsgDelegate},
		{kind: api.MsgStatic, to: true}, {kind: api.MsgStatic, static: true, to: true}, {kind: api.MsgCode, static: true},
	} {
		s, m := over(api.Account{Address: other}), to(x.kind)
		m.From, m.To, m.Value, m.Static = other, empty, w(0), x.static
		what := fmt.Sprintf("kind %d, static %v", x.kind, x.static)
		wantErr(t, what, do(s, m), api.OK)
		wantTrue(t, what+": they are there", s.Exists(other) && s.Exists(empty))
		s.End()
		wantTrue(t, what+": From", s.Exists(other) != x.from)
		wantTrue(t, what+": To", s.Exists(empty) != x.to)
	}
}

// P17.3: a balance that would come to 2^256: the value stays where it is, and no code runs.
func TestTooMuch(t *testing.T) {
	nearly := most()
	nearly[0] -= 2
	accounts := func() *state.State {
		return over(api.Account{Address: target, Balance: nearly, Code: storing(0, 1)}, api.Account{Address: echo, Balance: most()})
	}
	for _, x := range []struct {
		to    api.Address
		value uint64
		want  api.Errno
	}{
		{to: full, value: 0}, {to: full, value: 1, want: api.ErrFunds}, {to: full, value: had, want: api.ErrFunds},
		{to: target, value: 2}, {to: target, value: 3, want: api.ErrFunds}, {to: echo, value: 1, want: api.ErrFunds},
	} {
		s, m := accounts(), to(api.MsgCall)
		m.To, m.Value, m.Depth = x.to, w(x.value), 7
		what := fmt.Sprintf("%d to %x", x.value, x.to)
		r := do(s, m)
		wantErr(t, what, r, x.want)
		if x.want != api.OK {
			wantResult(t, what, r, api.Result{Err: x.want, Gas: enough, Deepest: 7})
			wantSame(t, what, s, accounts())
		}
	}
}

// P17.3: to oneself any value goes that one has.
func TestValueToOneself(t *testing.T) {
	s, m := over(), to(api.MsgCall)
	m.From, m.To, m.Value = full, full, most()
	wantResult(t, "all there is", do(s, m), api.Result{Gas: enough})
	wantWord(t, "the balance", s.Balance(full), most())
	wantTrue(t, "nothing has become of it", len(s.Changes()) == 0)
}

// inputs are what each contract, 1 to 10, takes; none of them is at fault.
func inputs() [][]byte {
	blake := make([]byte, 213)
	blake[3] = 12
	powers := make([]byte, 99)
	powers[31], powers[63], powers[95] = 1, 1, 1
	copy(powers[96:], []byte{3, 5, 7})
	return [][]byte{make([]byte, 128), []byte("abc"), []byte("abc"), []byte("abc"), powers, nil, make([]byte, 96), nil, blake, nil}
}

// P17.3: each contract tells what package pre does, in calls of each kind, and takes as much gas.
func TestContracts(t *testing.T) {
	for i, input := range inputs() {
		n := i + 1
		for _, k := range calls() {
			for _, gas := range []uint64{enough, 200000} {
				s, m := over(), to(k)
				m.To, m.Input, m.Gas, m.Depth = api.Address{19: byte(n)}, input, gas, 2
				out, left, e := pre.Call(n, input, gas)
				want := api.Result{Gas: left, Out: out, Deepest: 2}
				if e != api.OK {
					want = api.Result{Err: api.ErrPre, Deepest: 2}
				}
				wantResult(t, fmt.Sprintf("contract %d, kind %d", n, k), do(s, m), want)
				wantTrue(t, fmt.Sprintf("contract %d goes well, but 10, which has nothing to prove", n), (e == api.OK) == (n != 10))
				value := w(0)
				if k == api.MsgCall && e == api.OK {
					value = m.Value
				}
				wantWord(t, "what it has", s.Balance(m.To), value)
			}
		}
	}
}

// P17.3: just as much gas as a contract takes, and one less; one that fails: all gas is gone, and the value is where it was.
func TestContractsFail(t *testing.T) {
	for i, input := range inputs() {
		n := i + 1
		cost, _ := pre.Cost(n, input)
		m := to(api.MsgCall)
		m.To, m.Input, m.Gas = api.Address{19: byte(n)}, input, cost
		if n != 10 {
			r := do(over(), m)
			wantErr(t, fmt.Sprintf("contract %d, just enough gas", n), r, api.OK)
			wantNumber(t, fmt.Sprintf("contract %d, just enough gas", n), r.Gas, 0)
		}
		m.Gas = cost - 1
		wantPreFails(t, fmt.Sprintf("contract %d, too little gas", n), m)
	}
	bad := make([]byte, 192)
	bad[31] = 1
	for n, input := range map[int][]byte{5: {15: 1}, 6: bad, 7: bad, 8: bad, 9: make([]byte, 212), 10: make([]byte, 192)} {
		m := to(api.MsgCall)
		m.To, m.Input = api.Address{19: byte(n)}, input
		wantPreFails(t, fmt.Sprintf("contract %d", n), m)
	}
}

// wantPreFails sends a message to a contract that fails, as each kind of call.
func wantPreFails(t *testing.T, what string, m api.Msg) {
	t.Helper()
	for _, k := range calls() {
		s := over()
		m.Kind, m.Depth = k, 5
		wantResult(t, what, do(s, m), api.Result{Err: api.ErrPre, Deepest: 5})
		wantSame(t, what, s, over())
	}
}

// P17.3: at a contract's address no code runs, if there should be any; at 0 and 11 there is no contract.
func TestContractsAddresses(t *testing.T) {
	for _, k := range calls() {
		m := to(k)
		m.To = echo
		wantResult(t, "code at a contract's address", do(over(coded(echo, fault())), m), api.Result{Gas: enough - 18, Out: []byte{1, 2, 3}})
		for _, a := range []api.Address{{}, {19: 11}, {18: 1, 19: 4}, {0: 1, 19: 4}} {
			m.To = a
			wantResult(t, fmt.Sprintf("no contract at %x", a), do(over(), m), api.Result{Gas: enough})
			wantErr(t, fmt.Sprintf("code at %x", a), do(over(coded(a, fault())), m), api.ErrOpcode)
		}
	}
}

// P17.3: without code all gas is left, whatever the input.
func TestNoCode(t *testing.T) {
	for _, k := range calls() {
		for _, a := range []api.Address{bare, empty, sender} {
			for _, gas := range []uint64{0, 1, enough} {
				m := to(k)
				m.To, m.Gas, m.Depth = a, gas, 9
				wantResult(t, fmt.Sprintf("kind %d to %x", k, a), do(over(), m), api.Result{Gas: gas, Deepest: 9})
			}
		}
	}
}

// seen is code that tells all that hangs on a frame.
func seen() []byte {
	return telling(raw(0x5a), raw(0x30), raw(0x33), raw(0x34), raw(0x36), with(0x35, w(0)), raw(0x32), raw(0x38), with(0x54, w(0)), raw(0x47))
}

// P17.3: what the code of each kind sees: whose it is, who calls, with which value, the input, its code, its gas, the storage.
func TestFrames(t *testing.T) {
	for _, x := range []struct {
		kind         api.MsgKind
		self, caller api.Address
		value        uint64
		slot, has    uint64
	}{
		{api.MsgCall, target, sender, 3, 9, 103}, {api.MsgCode, helper, helper, 3, 8, 50},
		{api.MsgDelegate, helper, bare, 3, 8, 50}, {api.MsgStatic, target, sender, 0, 9, 100},
	} {
		m := to(x.kind)
		m.From = x.caller
		if x.self == helper {
			m.From = helper
		}
		s := over(coded(target, seen()), api.Account{Address: helper, Balance: w(50), Slots: []api.Slot{{Key: w(0), Value: w(8)}}})
		r := do(s, m)
		wantWords(
			t, fmt.Sprintf("kind %d", x.kind), r, w(enough-2), of(x.self), of(x.caller), w(x.value), w(3), api.Word{3: 0x0102030000000000},
			of(newEnv().Origin), w(uint64(len(seen()))), w(x.slot), w(x.has),
		)
	}
}

// P17.3: a value that a MsgDelegate tells is one that nobody needs to have.
func TestDelegatedValue(t *testing.T) {
	m := to(api.MsgDelegate)
	m.Value = most()
	wantWords(t, "the value", do(over(coded(target, telling(raw(0x34)))), m), most())
	m.Kind = api.MsgStatic
	wantWords(t, "the value of a static call", do(over(coded(target, telling(raw(0x34)))), m), w(0))
}

// P17.3: nothing may change in a message that says so, and in a MsgStatic.
func TestStaticFrames(t *testing.T) {
	for _, k := range calls() {
		for _, static := range []bool{false, true} {
			m := to(k)
			m.Value, m.Static = w(0), static
			want := api.OK
			if static || k == api.MsgStatic {
				want = api.ErrStatic
			}
			wantErr(t, fmt.Sprintf("kind %d, static %v", k, static), do(over(coded(target, storing(1, 1))), m), want)
		}
	}
}

// P17.3: whose storage it is that changes, and whose logs are told.
func TestWhoChanges(t *testing.T) {
	code := append(storing(2, 6), with(0xa0, w(0), w(0))...)
	for kind, who := range map[api.MsgKind]api.Address{api.MsgCall: target, api.MsgCode: sender, api.MsgDelegate: sender} {
		s, z := over(coded(target, code)), over(coded(target, code))
		m := to(kind)
		m.Value = w(0)
		wantErr(t, fmt.Sprintf("kind %d", kind), do(s, m), api.OK)
		z.SetSlot(who, w(2), w(6))
		z.WarmSlot(who, w(2))
		z.Tell(api.Log{Address: who})
		wantSame(t, fmt.Sprintf("kind %d", kind), s, z)
	}
}
