package call

import (
	"math"

	"cairn/api"
	"cairn/gas"
)

// firstByteRefused is what no account's code begins with.
const firstByteRefused = 0xef

// create answers what comes of a creation: P17.4
func (x *message) create() api.Result {
	nonce := x.state.Nonce(x.From)
	if nonce == math.MaxUint64 {
		return x.idle(api.ErrNonce)
	}
	x.state.SetNonce(x.From, nonce+1)
	at := x.address(nonce)
	x.state.Warm(at)
	if x.state.Used(at) {
		return api.Result{Err: api.ErrCollision, Deepest: x.Depth}
	}
	return x.allOrNothing(func() api.Result {
		x.state.Create(at)
		x.state.SetNonce(at, 1)
		if e := x.pay(at); e != api.OK {
			return x.idle(e)
		}
		return x.keep(at, x.run(api.Frame{Self: at, Caller: x.From, Value: x.Value, Code: x.Input, Gas: x.Gas}))
	})
}

// address answers where it creates, by the nonce that From had.
func (x *message) address(nonce uint64) api.Address {
	if x.Kind == api.MsgCreate2 {
		return Made2(x.From, x.Salt, x.Input)
	}
	return Made(x.From, nonce)
}

// keep lets what init code told be the code of the account that it made.
func (x *message) keep(at api.Address, told api.Result) api.Result {
	if told.Err != api.OK {
		return told
	}
	r := api.Result{Steps: told.Steps, Deepest: told.Deepest}
	code := told.Out
	cost := gas.Deposit(uint64(len(code)))
	switch {
	case len(code) > api.MaxCode, len(code) > 0 && code[0] == firstByteRefused:
		r.Err = api.ErrCode
	case cost > told.Gas:
		r.Err = api.ErrGas
	default:
		x.state.SetCode(at, code)
		r.Gas, r.Made = told.Gas-cost, at
	}
	return r
}
