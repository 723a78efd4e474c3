package machine_test

import (
	"fmt"
	"testing"

	"cairn/api"
	"cairn/gas"
	"cairn/state"
)

// The opcodes that ask.
const (
	create       = 0xf0
	call         = 0xf1
	callcode     = 0xf2
	delegatecall = 0xf4
	create2      = 0xf5
	staticcall   = 0xfa
)

// aCall is a call of an address, with so much gas asked for; input and output are rooms.
func aCall(op byte, asked, to, value api.Word, input, output [2]uint64) trial {
	words := []api.Word{asked, to, value, w(input[0]), w(input[1]), w(output[0]), w(output[1])}
	if op == delegatecall || op == staticcall {
		words = append(words[:2:2], words[3:]...)
	}
	return trial{op: op, words: words}
}

// warmed makes an address warm ahead.
func warmed(x trial, a api.Address) trial {
	x.ready = func(s *state.State) { s.Warm(a) }
	return x
}

func TestCalls(t *testing.T) { // 15.2: what is asked for
	for _, op := range []byte{call, callcode, delegatecall, staticcall} {
		x := aCall(op, w(5000), spoilt(coded), w(0), [2]uint64{3, 40}, [2]uint64{90, 20})
		x.ahead = fill(3)
		m, s, v := x.do(t)
		want := api.Ask{Op: op, Gas: 5000, To: coded, Input: input(96)[3:43]}
		wantEvent(t, "a call", v, api.Event{Kind: api.EventAsk, Ask: want})
		wantNumber(t, "what is handed on is paid", m.Gas(), 30000000-2600-(memoryCost(4)-memoryCost(3))-5000)
		wantStack(t, "while it asks", m)
		wantBytes(t, "while it asks: the memory", m.Memory(), append(input(96), make([]byte, 32)...))
		wantNumber(t, "while it asks: the place", uint64(m.Place()), uint64(len(x.ahead)+len(with(x.op, x.words...))))
		wantTrue(t, "it is warm", s.Warm(coded) && !s.Warm(self) && !s.Warm(bare))
		wantText(t, "nothing goes by itself", stateText(s), stateText(newState()))
	}
}

func TestCallsWithAValue(t *testing.T) { // 15.2: 2300 more are handed on, which are not paid
	value := api.Word{1, 2, 3, 4} // whether Self has that is not asked here
	for op, cost := range map[byte]uint64{call: 2600 + 9000, callcode: 2600 + 9000} {
		x := aCall(op, w(5000), of(coded), value, [2]uint64{}, [2]uint64{})
		m, _, v := x.do(t)
		wantEvent(t, "with a value", v, api.Event{Kind: api.EventAsk, Ask: api.Ask{Op: op, Gas: 7300, To: coded, Value: value}})
		wantNumber(t, "with a value", m.Gas(), 30000000-cost-5000)
		x.words[0] = w(0)
		m, _, v = x.do(t)
		wantEvent(t, "with nothing asked for", v, api.Event{Kind: api.EventAsk, Ask: api.Ask{Op: op, Gas: 2300, To: coded, Value: value}})
		wantNumber(t, "with nothing asked for", m.Gas(), 30000000-cost)
	}
}

// 15.2: of what is left a 64th stays, if more is asked for.
func TestHandedOn(t *testing.T) {
	for _, op := range []byte{call, callcode, delegatecall, staticcall} {
		for _, left := range []uint64{0, 1, 63, 64, 65, 127, 128, 6400, 1000000} {
			most := left - left/64
			for asked, want := range map[api.Word]uint64{
				w(0): 0, w(most): most, w(most + 1): most, w(1 << 40): most, w(1<<64 - 1): most, {0, 1}: most, {1, 0, 0, 1}: most, w(most / 2): most / 2,
			} {
				x := warmed(aCall(op, asked, of(coded), w(0), [2]uint64{}, [2]uint64{}), coded)
				m := x.at(t, x.state(), 100+left)
				v := m.Run(1)
				what := fmt.Sprintf("%x, %d left, %v asked for", op, left, asked)
				wantKind(t, what, v, api.EventAsk)
				wantNumber(t, what, v.Ask.Gas, want)
				wantNumber(t, what, m.Gas(), left-want)
			}
		}
	}
	for _, op := range []byte{create, create2} {
		for _, left := range []uint64{0, 1, 63, 64, 65, 127, 128, 6400, 1000000} {
			x := trial{op: op, words: []api.Word{w(0), w(0), w(0), w(0)}[:3+int(op-create)/5]}
			m := x.at(t, x.state(), 32000+left)
			v := m.Run(1)
			wantKind(t, "a creation", v, api.EventAsk)
			wantNumber(t, "a creation", v.Ask.Gas, left-left/64)
			wantNumber(t, "a creation", m.Gas(), left/64)
		}
	}
}

func TestCostOfCalls(t *testing.T) { // 15.2
	nowhere := [2]uint64{}
	for _, a := range []api.Address{coded, bare, full, self, empty, absent, {19: 1}} {
		gone := a == empty || a == absent || a == api.Address{19: 1}
		for _, op := range []byte{call, callcode, delegatecall, staticcall} {
			x := aCall(op, w(0), of(a), w(0), nowhere, nowhere)
			wantCost(t, "cold", x, 2600)
			wantCost(t, "warm", warmed(x, a), 100)
			for _, left := range []uint64{0, 2599} {
				wantTrue(t, "warm behind the fault", wantRefused(t, "cold", x, left, api.ErrGas).Warm(a))
			}
			if op == delegatecall || op == staticcall {
				continue
			}
			more := uint64(9000)
			if op == call && gone {
				more += 25000
			}
			for _, value := range []api.Word{w(1), {0, 0, 0, 1}} {
				x = aCall(op, w(0), spoilt(a), value, nowhere, nowhere)
				wantCost(t, "cold, with a value", x, 2600+more)
				wantCost(t, "warm, with a value", warmed(x, a), 100+more)
			}
		}
	}
	x := aCall(call, w(0), of(coded), w(1), [2]uint64{0, 40}, [2]uint64{64, 40})
	wantCost(t, "with rooms", x, memoryCost(2), memoryCost(4)-memoryCost(2), 11600)
	for left, warm := range map[uint64]bool{0: false, 5: false, 6: false, 11: false, 12: true, 100: true} {
		wantTrue(t, "warm, where it came to that", wantRefused(t, "with rooms", x, left, api.ErrGas).Warm(coded) == warm)
	}
	x = aCall(delegatecall, w(0), of(coded), w(0), [2]uint64{64, 40}, [2]uint64{0, 40})
	wantCost(t, "with rooms", x, memoryCost(4), 2600)
	x.words[2] = most()
	wantTrue(t, "not warm where a room is far away", !wantRefused(t, "far away", x, 30000000, api.ErrGas).Warm(coded))
}

func TestStaticCalls(t *testing.T) { // 15.1: CALL with a value alone is refused
	for _, op := range []byte{call, callcode, delegatecall, staticcall} {
		for _, value := range []api.Word{w(0), w(1), {0, 0, 0, 1}} {
			x := aCall(op, w(100), of(absent), value, [2]uint64{}, [2]uint64{})
			x.static = true
			if op == call && value != w(0) {
				wantRefused(t, "CALL with a value", x, 30000000, api.ErrStatic)
				continue
			}
			_, _, v := x.do(t)
			wantKind(t, "not refused", v, api.EventAsk)
		}
	}
}

// aCreation is a creation by so many bytes of init code, from a place on.
func aCreation(op byte, value api.Word, at, long api.Word, salt api.Word) trial {
	return trial{op: op, words: []api.Word{value, at, long, salt}[:3+int(op-create)/5]}
}

func TestCreations(t *testing.T) { // 15.2: what is asked for
	value, salt := api.Word{9, 8, 7, 6}, api.Word{1, 2, 3, 4}
	for op, cost := range map[byte]uint64{create: 32000 + 4, create2: 32000 + 4 + 12} {
		x := aCreation(op, value, w(3), w(40), salt)
		x.ahead = fill(3)
		m, s, v := x.do(t)
		left := 30000000 - cost
		want := api.Ask{Op: op, Gas: left - left/64, Value: value, Input: input(96)[3:43]}
		if op == create2 {
			want.Salt = salt
		}
		wantEvent(t, "a creation", v, api.Event{Kind: api.EventAsk, Ask: want})
		wantNumber(t, "what is handed on is paid", m.Gas(), left/64)
		wantStack(t, "while it asks", m)
		wantText(t, "nothing is made by itself", stateText(s), stateText(newState()))
		wantText(t, "nothing is warm", warmText(s), warmText(newState()))
	}
}

func TestCostOfCreations(t *testing.T) { // 15.2
	wantCost(t, "CREATE", aCreation(create, w(0), w(0), w(0), w(0)), 32000)
	wantCost(t, "CREATE2", aCreation(create2, w(0), w(0), w(0), w(0)), 32000)
	wantCost(t, "CREATE", aCreation(create, w(0), w(0), w(65), w(0)), 32000, memoryCost(3), 6)
	wantCost(t, "CREATE2", aCreation(create2, w(0), w(0), w(65), w(0)), 32000, memoryCost(3), 6, 18)
	for op, each := range map[byte]uint64{create: 2, create2: 8} {
		wantCost(t, "the longest init code", aCreation(op, w(0), w(0), w(49152), w(0)), 32000+memoryCost(1536)+each*1536)
		wantCost(t, "the longest init code", aCreation(op, w(0), w(31), w(49152), w(0)), 32000+memoryCost(1537)+each*1536)
		wantRefused(t, "too long a one", aCreation(op, w(0), w(0), w(49153), w(0)), 30000000, api.ErrGas)
		wantRefused(t, "too long a one", aCreation(op, w(0), w(0), w(49184), w(0)), 30000000, api.ErrGas)
		wantRefused(t, "far too long a one", aCreation(op, w(0), w(0), api.Word{0, 1}, w(0)), 30000000, api.ErrGas)
		there := aCreation(op, w(0), w(0), w(49153), w(0))
		there.ahead = with(0x51, w(60000))
		wantRefused(t, "too long a one, where the memory is there", there, 30000000, api.ErrGas)
	}
	_, _, v := aCreation(create, w(0), w(0), w(49152), w(0)).do(t)
	wantNumber(t, "all of it", uint64(len(v.Ask.Input)), 49152)
}

// P15.2: what is forwarded is what gas.Forward says, of all the gas that is left behind all other parts.
func TestForwardBehindAllParts(t *testing.T) {
	x := aCall(call, most(), of(absent), w(1), [2]uint64{0, 500}, [2]uint64{600, 500})
	m := x.at(t, x.state(), 1000000)
	v := m.Run(1)
	left := uint64(1000000 - memoryCost(35) - 2600 - 9000 - 25000)
	wantNumber(t, "forwarded", v.Ask.Gas, gas.Forward(left, most())+2300)
	wantNumber(t, "kept", m.Gas(), left/64)
}
