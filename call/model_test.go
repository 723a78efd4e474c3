package call_test

import (
	"math"

	"cairn/api"
	"cairn/call"
	"cairn/gas"
	"cairn/machine"
	"cairn/pre"
	"cairn/state"
	"cairn/word"
)

// plain does messages over a state as the chapter's paragraphs say it, one behind the other; it counts them, and keeps at which depths code
// ran.
type plain struct {
	s        *state.State
	e        api.Env
	messages int
}

// do answers what comes of a message, but for its Deepest, and the depths at which code ran within it.
func (p *plain) do(m api.Msg) (api.Result, []int) {
	p.messages++
	early := func(e api.Errno) (api.Result, []int) { return api.Result{Err: e, Gas: m.Gas}, nil }
	creation, most := false, api.MaxMemory
	switch m.Kind {
	case api.MsgCreate, api.MsgCreate2:
		creation, most = true, api.MaxInit
	case api.MsgCall, api.MsgCode, api.MsgDelegate, api.MsgStatic:
	default:
		return early(api.ErrMsg)
	}
	switch {
	case m.Gas > api.MaxGas, len(m.Input) > most, m.Depth < 0, m.Static && creation, m.Static && m.Kind == api.MsgCall && m.Value != (api.Word{}):
		return early(api.ErrMsg)
	case m.Depth > api.MaxCalls:
		return early(api.ErrDepth)
	case m.Kind != api.MsgDelegate && m.Kind != api.MsgStatic && word.Cmp(p.s.Balance(m.From), m.Value) < 0:
		return early(api.ErrFunds)
	case creation && p.s.Nonce(m.From) == math.MaxUint64:
		return early(api.ErrNonce)
	case creation:
		return p.create(m)
	}
	return p.call(m)
}

// back takes all back, where there is an error.
func (p *plain) back(mark int, r api.Result, ran []int) (api.Result, []int) {
	if r.Err != api.OK {
		p.s.Back(mark)
	}
	return r, ran
}

func (p *plain) call(m api.Msg) (api.Result, []int) {
	n, isPre := pre.Is(m.To)
	mark := p.s.Mark()
	switch m.Kind {
	case api.MsgCall:
		if !p.s.Exists(m.To) && m.Value == (api.Word{}) && !isPre {
			return api.Result{Gas: m.Gas}, nil
		}
		if m.Static { // nothing but touching may be done then
			p.s.Touch(m.From)
		} else if p.s.Sub(m.From, m.Value) != api.OK || p.s.Add(m.To, m.Value) != api.OK {
			return p.back(mark, api.Result{Err: api.ErrFunds, Gas: m.Gas}, nil)
		}
		p.s.Touch(m.To)
	case api.MsgStatic:
		p.s.Touch(m.To)
	}
	if isPre {
		out, left, e := pre.Call(n, m.Input, m.Gas)
		if e != api.OK {
			return p.back(mark, api.Result{Err: api.ErrPre}, nil)
		}
		return api.Result{Gas: left, Out: out}, nil
	}
	code := p.s.Code(m.To)
	if len(code) == 0 {
		return api.Result{Gas: m.Gas}, nil
	}
	f := api.Frame{Input: m.Input, Code: code, Gas: m.Gas, Static: m.Static || m.Kind == api.MsgStatic}
	switch m.Kind {
	case api.MsgCall:
		f.Self, f.Caller, f.Value = m.To, m.From, m.Value
	case api.MsgCode:
		f.Self, f.Caller, f.Value = m.From, m.From, m.Value
	case api.MsgDelegate:
		f.Self, f.Caller, f.Value = m.From, m.Caller, m.Value
	case api.MsgStatic:
		f.Self, f.Caller = m.To, m.From
	}
	r, ran := p.run(f, m.Depth)
	return p.back(mark, r, ran)
}

func (p *plain) create(m api.Msg) (api.Result, []int) {
	nonce := p.s.Nonce(m.From)
	p.s.SetNonce(m.From, nonce+1)
	at := call.Made(m.From, nonce)
	if m.Kind == api.MsgCreate2 {
		at = call.Made2(m.From, m.Salt, m.Input)
	}
	p.s.Warm(at)
	if p.s.Used(at) {
		return api.Result{Err: api.ErrCollision}, nil
	}
	mark := p.s.Mark()
	p.s.Create(at)
	p.s.SetNonce(at, 1)
	if p.s.Sub(m.From, m.Value) != api.OK || p.s.Add(at, m.Value) != api.OK {
		return p.back(mark, api.Result{Err: api.ErrFunds, Gas: m.Gas}, nil)
	}
	r, ran := p.run(api.Frame{Self: at, Caller: m.From, Value: m.Value, Code: m.Input, Gas: m.Gas}, m.Depth)
	if r.Err == api.OK {
		cost := gas.Deposit(uint64(len(r.Out)))
		switch {
		case len(r.Out) > api.MaxCode || len(r.Out) > 0 && r.Out[0] == 0xef:
			r.Err, r.Gas = api.ErrCode, 0
		case cost > r.Gas:
			r.Err, r.Gas = api.ErrGas, 0
		default:
			p.s.SetCode(at, r.Out)
			r.Gas, r.Made = r.Gas-cost, at
		}
		r.Out = nil
	}
	return p.back(mark, r, ran)
}

func (p *plain) run(f api.Frame, depth int) (api.Result, []int) {
	m, e := machine.New(p.s, p.e, f)
	if e != api.OK {
		return api.Result{Err: e}, nil
	}
	ran, steps := []int{depth}, 0
	v := m.Run(math.MaxInt)
	for v.Kind == api.EventAsk {
		x := api.Msg{From: f.Self, To: v.Ask.To, Value: v.Ask.Value, Input: v.Ask.Input, Salt: v.Ask.Salt, Gas: v.Ask.Gas}
		x.Static, x.Depth = f.Static, depth+1
		x.Kind = map[byte]api.MsgKind{0xf0: 5, 0xf1: 1, 0xf2: 2, 0xf4: 3, 0xf5: 6, 0xfa: 4}[v.Ask.Op]
		if x.Kind == api.MsgDelegate {
			x.Caller, x.Value = f.Caller, f.Value
		}
		r, within := p.do(x)
		ran, steps = append(ran, within...), steps+r.Steps
		m.Reply(api.Reply{OK: r.Err == api.OK, Gas: r.Gas, Out: r.Out, Made: r.Made})
		v = m.Run(math.MaxInt)
	}
	r := api.Result{Gas: m.Gas(), Out: v.Out, Steps: steps + m.Steps()}
	switch v.Kind {
	case api.EventRevert:
		r.Err = api.ErrRevert
	case api.EventFault:
		r.Err = v.Err
	}
	return r, ran
}
