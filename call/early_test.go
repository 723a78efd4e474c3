package call_test

import (
	"fmt"
	"math"
	"testing"

	"cairn/api"
	"cairn/state"
)

// none are no kinds.
func none() []api.MsgKind { return []api.MsgKind{0, -1, 7, 8, 256 + 1, math.MaxInt, math.MinInt} }

// early is a state over accounts of which one may send no creations any more.
func early() *state.State {
	return over(coded(target, storing(0, 1)), api.Account{Address: helper, Nonce: math.MaxUint64, Balance: w(had)})
}

// wantEarly sends a message, and holds what comes of it against an error that changes nothing and takes no gas.
func wantEarly(t *testing.T, what string, m api.Msg, want api.Errno) {
	t.Helper()
	s := early()
	wantResult(t, what, do(s, m), api.Result{Err: want, Gas: m.Gas, Deepest: m.Depth})
	wantNumber(t, what+": marks", uint64(s.Mark()), 0)
	wantSame(t, what, s, early())
}

// wantNotEarly sends a message that goes well.
func wantNotEarly(t *testing.T, what string, m api.Msg) {
	t.Helper()
	wantErr(t, what, do(early(), m), api.OK)
}

// each does something for a message of each kind that goes well.
func each(l []api.MsgKind, do func(what string, m api.Msg)) {
	for _, k := range l {
		m := to(k)
		if k == api.MsgCreate || k == api.MsgCreate2 {
			m.Input = storing(0, 1)
		}
		if k == api.MsgStatic {
			m.To = bare
		}
		do(fmt.Sprintf("kind %d", k), m)
	}
}

// P17.2: all of these go well as they are, so that what is told of others hangs on what is changed there alone.
func TestOrdinary(t *testing.T) {
	each(kinds(), func(what string, m api.Msg) { wantNotEarly(t, what, m) })
}

// P17.2: a kind that is none.
func TestNoKind(t *testing.T) {
	for _, k := range none() {
		m := to(k)
		wantEarly(t, fmt.Sprintf("kind %d", k), m, api.ErrMsg)
		m.Static, m.Value = true, w(0)
		wantEarly(t, fmt.Sprintf("kind %d, static", k), m, api.ErrMsg)
	}
}

// P17.2: as much gas as anybody may have, and more.
func TestMostGas(t *testing.T) {
	each(kinds(), func(what string, m api.Msg) {
		m.Gas = api.MaxGas
		wantNotEarly(t, what+", the most", m)
		for _, gas := range []uint64{api.MaxGas + 1, 1 << 32, 1 << 63, math.MaxUint64} {
			m.Gas = gas
			wantEarly(t, fmt.Sprintf("%s, gas %d", what, gas), m, api.ErrMsg)
		}
	})
}

// P17.2: as much input as there may be, and one byte more.
func TestMostInput(t *testing.T) {
	each(calls(), func(what string, m api.Msg) {
		m.Input = make([]byte, api.MaxMemory)
		wantNotEarly(t, what+", the most", m)
		m.Input = make([]byte, api.MaxMemory+1)
		wantEarly(t, what+", one more", m, api.ErrMsg)
		m.To = absent
		wantEarly(t, what+", one more, to nobody", m, api.ErrMsg)
		m.To = echo
		wantEarly(t, what+", one more, to a contract", m, api.ErrMsg)
	})
	each(creations(), func(what string, m api.Msg) {
		m.Input = make([]byte, api.MaxInit)
		wantNotEarly(t, what+", the most", m)
		m.Input = make([]byte, api.MaxInit+1)
		wantEarly(t, what+", one more", m, api.ErrMsg)
	})
}

// P17.2: depths that may not be, the greatest one, and deeper ones.
func TestDepths(t *testing.T) {
	each(kinds(), func(what string, m api.Msg) {
		for depth, want := range map[int]api.Errno{
			math.MinInt: api.ErrMsg, -2: api.ErrMsg, -1: api.ErrMsg, api.MaxCalls + 1: api.ErrDepth, api.MaxCalls + 2: api.ErrDepth, math.MaxInt: api.ErrDepth,
		} {
			m.Depth = depth
			wantEarly(t, fmt.Sprintf("%s, depth %d", what, depth), m, want)
		}
		for _, depth := range []int{0, 1, api.MaxCalls - 1, api.MaxCalls} {
			m.Depth = depth
			wantNotEarly(t, fmt.Sprintf("%s, depth %d", what, depth), m)
		}
	})
}

// P17.2: where nothing may change no call has a value; of other kinds the value is none that is paid.
func TestStaticValue(t *testing.T) {
	for _, value := range []api.Word{{1}, {0, 1}, {0, 0, 1}, {0, 0, 0, 1 << 63}} {
		m := to(api.MsgCall)
		m.Static, m.Value, m.To = true, value, bare
		wantEarly(t, "a call with a value", m, api.ErrMsg)
	}
	each(calls(), func(what string, m api.Msg) {
		m.Static, m.To = true, bare
		if m.Kind == api.MsgCall {
			m.Value = w(0)
		}
		wantNotEarly(t, what, m)
	})
}

// P17.2: where nothing may change nothing is created, with a value and without one.
func TestStaticCreations(t *testing.T) {
	each(creations(), func(what string, m api.Msg) {
		m.Static = true
		wantEarly(t, what, m, api.ErrMsg)
		m.Value, m.Input = w(0), nil
		wantEarly(t, what+", of nothing", m, api.ErrMsg)
	})
}

// P17.2: no state, and one that nobody made.
func TestNoState(t *testing.T) {
	each(append(kinds(), none()...), func(what string, m api.Msg) {
		for _, value := range []api.Word{{}, {3}} {
			m.Value = value
			want := api.Result{Err: api.ErrMsg, Gas: m.Gas}
			wantResult(t, what+", no state", do(nil, m), want)
			wantResult(t, what+", nobody's state", do(&state.State{}, m), want)
		}
		m.To, m.Value, m.Depth = echo, w(0), api.MaxCalls+1
		wantErr(t, what+", too deep", do(nil, m), api.ErrMsg)
	})
}

// P17.2: a state over nothing is one.
func TestStateOverNothing(t *testing.T) {
	each(kinds(), func(what string, m api.Msg) {
		m.Value = w(0)
		wantErr(t, what, do(state.New(nil), m), api.OK)
	})
}

// P17.2: a balance that is just enough, and one that is one too little; two kinds ask for none.
func TestFunds(t *testing.T) {
	each([]api.MsgKind{api.MsgCall, api.MsgCode, api.MsgCreate, api.MsgCreate2}, func(what string, m api.Msg) {
		m.Value = w(had)
		wantNotEarly(t, what+", just enough", m)
		for _, value := range []api.Word{w(had + 1), {0, 1}, {0, 0, 0, 1}, most()} {
			m.Value = value
			wantEarly(t, what+", too little", m, api.ErrFunds)
		}
		m.From, m.To, m.Value = full, absent, most()
		wantErr(t, what+", all there is", do(early(), m), api.OK)
		m.From, m.Value = absent, w(0)
		wantNotEarly(t, what+", nothing of nobody", m)
		m.Value = w(1)
		wantEarly(t, what+", something of nobody", m, api.ErrFunds)
	})
	each([]api.MsgKind{api.MsgDelegate, api.MsgStatic}, func(what string, m api.Msg) {
		for _, from := range []api.Address{sender, absent, empty} {
			m.From, m.Value = from, most()
			wantNotEarly(t, what+", that pays nothing", m)
		}
	})
}

// P17.2: the funds are asked for ahead of everything that a call could find at To.
func TestFundsWhereverTo(t *testing.T) {
	for _, a := range []api.Address{absent, echo, empty, full, bare, target, sender} {
		for _, k := range []api.MsgKind{api.MsgCall, api.MsgCode} {
			m := to(k)
			m.To, m.Value = a, w(had+1)
			wantEarly(t, fmt.Sprintf("kind %d to %x", k, a), m, api.ErrFunds)
		}
	}
}

// P17.2, P17.4: two things at once are against a message: the first one counts.
func TestOrderOfEarly(t *testing.T) {
	wrong := map[string]func(m *api.Msg){
		"gas":   func(m *api.Msg) { m.Gas = api.MaxGas + 1 },
		"input": func(m *api.Msg) { m.Input = make([]byte, api.MaxMemory+1) },
		"kind":  func(m *api.Msg) { m.Kind = 0 },
		"static": func(m *api.Msg) {
			m.Static = true
			if m.Kind != api.MsgCreate2 {
				m.Kind = api.MsgCall
			}
			m.Value = w(had + 1)
		},
		"depth": func(m *api.Msg) { m.Depth = -1 },
	}
	deep := func(m *api.Msg) { m.Depth = max(m.Depth, api.MaxCalls+1) }
	poor := func(m *api.Msg) { m.Value = w(had + 1) }
	last := func(m *api.Msg) { m.From = helper }
	each(kinds(), func(what string, m api.Msg) {
		for why, change := range wrong {
			for with, more := range map[string]func(m *api.Msg){"too deep": deep, "too poor": poor, "the last nonce": last} {
				x := m
				more(&x)
				change(&x)
				wantEarly(t, what+", "+why+", "+with, x, api.ErrMsg)
			}
		}
		x := m
		poor(&x)
		deep(&x)
		wantEarly(t, what+", too deep and too poor", x, api.ErrDepth)
		x = m
		last(&x)
		deep(&x)
		wantEarly(t, what+", too deep and the last nonce", x, api.ErrDepth)
	})
	each(creations(), func(what string, m api.Msg) {
		last(&m)
		wantEarly(t, what+", the last nonce", m, api.ErrNonce)
		poor(&m)
		wantEarly(t, what+", too poor and the last nonce", m, api.ErrFunds)
	})
}
