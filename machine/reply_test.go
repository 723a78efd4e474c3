package machine_test

import (
	"slices"
	"testing"

	"cairn/api"
	"cairn/machine"
)

// asking is a machine that asks: it has 96 bytes of memory, one word on its stack, and returned is what it was told by a call ahead.
func asking(t *testing.T, op byte, output [2]uint64) *machine.Machine {
	t.Helper()
	x := aCall(op, w(5000), of(coded), w(0), [2]uint64{3, 40}, output)
	if op == create || op == create2 {
		x = aCreation(op, w(0), w(3), w(40), w(1))
	}
	x.ahead = slices.Concat(fill(3), []byte{0x60, 77}, with(callcode, w(0), of(bare), w(0), w(0), w(0), w(0), w(0)), []byte{0x50})
	x.reply = api.Reply{Out: []byte("ahead")}
	x.behind = []byte{0x3d, 0x3d}
	m, _, v := x.do(t)
	wantKind(t, "preparing", v, api.EventAsk)
	return m
}

func TestReplyWhereNothingIsAsked(t *testing.T) { // P15.3
	for _, r := range []api.Reply{{}, {OK: true}, {OK: true, Gas: 1 << 60, Out: []byte("out"), Made: self}} {
		m := start(t, newState(), newEnv(), newFrame([]byte{0x60, 1, 0x60, 2}, with(call, make([]api.Word, 7)...)))
		for range 9 {
			before := told(m)
			wantErrno(t, "nothing is asked", m.Reply(r), api.ErrMachine)
			wantText(t, "nothing is asked", told(m), before)
			wantKind(t, "nothing is asked", m.Run(1), api.EventPause)
		}
		wantKind(t, "it asks", m.Run(1), api.EventAsk)
		wantErrno(t, "it is told", m.Reply(api.Reply{}), api.OK)
		before := told(m)
		wantErrno(t, "told already", m.Reply(r), api.ErrMachine)
		wantText(t, "told already", told(m), before)
		wantKind(t, "at the end", m.Run(1), api.EventStop)
		wantErrno(t, "at the end", m.Reply(r), api.ErrMachine)
		wantKind(t, "at the end", m.Run(1), api.EventStop)
	}
}

func TestReplyWithTooMuchGas(t *testing.T) { // P15.3: as much as was asked with may come back, the 2300 as well
	for _, op := range []byte{call, callcode, delegatecall, staticcall, create, create2} {
		m := asking(t, op, [2]uint64{0, 9})
		v := m.Run(0)
		before := told(m)
		for _, more := range []uint64{1, 2, 1 << 30, 1<<64 - 1 - v.Ask.Gas} {
			wantErrno(t, "more than was asked with", m.Reply(api.Reply{OK: true, Gas: v.Ask.Gas + more, Out: []byte("out"), Made: self}), api.ErrRange)
			wantText(t, "nothing has changed", told(m), before)
			wantEvent(t, "it still asks", m.Run(5), v)
		}
		left := m.Gas()
		wantErrno(t, "as much as was asked with", m.Reply(api.Reply{Gas: v.Ask.Gas}), api.OK)
		wantNumber(t, "the gas", m.Gas(), left+v.Ask.Gas)
	}
	x := aCall(call, w(100), of(bare), w(1), [2]uint64{}, [2]uint64{})
	m, _, _ := x.do(t)
	left := m.Gas()
	wantErrno(t, "with a value", m.Reply(api.Reply{Gas: 2401}), api.ErrRange)
	wantErrno(t, "with a value", m.Reply(api.Reply{Gas: 2400}), api.OK)
	wantNumber(t, "with a value", m.Gas(), left+2400)
}

func TestReplyToACall(t *testing.T) { // P15.3
	for _, op := range []byte{call, callcode, delegatecall, staticcall} {
		for _, output := range [][2]uint64{{0, 0}, {5, 10}, {90, 20}, {0, 96}, {32, 1}} {
			for _, n := range []int{0, 1, 9, 10, 11, 30, 200} {
				for _, ok := range []bool{true, false} {
					m := asking(t, op, output)
					left, place, steps, want := m.Gas(), m.Place(), m.Steps(), m.Memory()
					wantBytes(t, "what was returned ahead", m.Returned(), []byte("ahead"))
					out := slices.Repeat([]byte{0xee}, n)
					wantErrno(t, "Reply", m.Reply(api.Reply{OK: ok, Gas: 33, Out: out, Made: twin}), api.OK)
					copy(want[output[0]:output[0]+output[1]], out)
					wantBytes(t, "the memory", m.Memory(), want)
					wantBytes(t, "what was returned", m.Returned(), out)
					answer := w(0)
					if ok {
						answer = w(1)
					}
					wantStack(t, "the answer", m, w(77), answer)
					wantTrue(t, "all else", m.Gas() == left+33 && m.Place() == place && m.Steps() == steps)
					wantEvent(t, "it goes on", m.Run(1), api.Event{Kind: api.EventPause})
					wantStack(t, "behind the instruction", m, w(77), answer, w(uint64(n)))
				}
			}
		}
	}
}

func TestReplyToACreation(t *testing.T) { // P15.3
	for _, op := range []byte{create, create2} {
		for _, out := range [][]byte{nil, []byte("something")} {
			m := asking(t, op, [2]uint64{})
			memory, left := m.Memory(), m.Gas()
			wantErrno(t, "Reply", m.Reply(api.Reply{OK: true, Gas: 5, Out: out, Made: twin}), api.OK)
			wantStack(t, "made", m, w(77), of(twin))
			wantBytes(t, "nothing was returned", m.Returned(), nil)
			wantBytes(t, "the memory stays", m.Memory(), memory)
			wantNumber(t, "the gas", m.Gas(), left+5)
			m.Run(1)
			wantStack(t, "behind the instruction", m, w(77), of(twin), w(0))

			m = asking(t, op, [2]uint64{})
			wantErrno(t, "Reply", m.Reply(api.Reply{Gas: 5, Out: out, Made: twin}), api.OK)
			wantStack(t, "not made", m, w(77), w(0))
			wantBytes(t, "what was returned", m.Returned(), out)
			wantBytes(t, "the memory stays", m.Memory(), memory)
			m.Run(1)
			wantStack(t, "behind the instruction", m, w(77), w(0), w(uint64(len(out))))
		}
	}
}

// P15.3: a room of the output that is nowhere takes nothing.
func TestReplyToNoRoom(t *testing.T) {
	for _, at := range farAway() {
		x := trial{op: staticcall, words: []api.Word{w(50), of(coded), w(0), w(0), at, w(0)}}
		m, _, v := x.do(t)
		wantKind(t, "no room", v, api.EventAsk)
		wantErrno(t, "no room", m.Reply(api.Reply{OK: true, Out: []byte("out")}), api.OK)
		wantBytes(t, "no room", m.Memory(), nil)
		wantBytes(t, "no room", m.Returned(), []byte("out"))
	}
}

// behindACall is a trial behind a call that returned n bytes.
func behindACall(n int, x trial) trial {
	x.ahead = slices.Concat(fill(3), with(call, w(0), of(coded), w(0), w(0), w(0), w(0), w(0)), []byte{0x50})
	x.reply = api.Reply{Out: input(n)}
	return x
}

func TestReturndata(t *testing.T) { // 15.2
	for _, n := range []int{0, 1, 50, 5000} {
		wantPush(t, "RETURNDATASIZE", behindACall(n, trial{op: 0x3d}), w(uint64(n)))
	}
	for _, at := range []uint64{0, 5, 96, 100} {
		for _, x := range [][2]uint64{{0, 0}, {50, 0}, {0, 50}, {49, 1}, {10, 20}, {0, 1}} {
			from, long := x[0], x[1]
			m, _, v := behindACall(50, trial{op: 0x3e, words: []api.Word{w(at), w(from), w(long)}}).do(t)
			wantKind(t, "RETURNDATACOPY", v, api.EventPause)
			want := input(96)
			if long > 0 {
				want = append(want, make([]byte, 32*max(3, ceil(at+long))-96)...)
				copy(want[at:], input(50)[from:from+long])
			}
			wantBytes(t, "RETURNDATACOPY", m.Memory(), want)
		}
	}
	for _, x := range [][2]api.Word{
		{w(51), w(0)}, {w(50), w(1)}, {w(0), w(51)}, {w(49), w(2)}, {w(1), w(50)}, {most(), w(0)}, {most(), w(1)}, {most(), w(50)}, {w(1<<64 - 1), w(1)},
		{w(1<<64 - 1), w(50)}, {{0, 1}, w(0)}, {{0, 1}, w(5)}, {{5, 0, 0, 1}, w(5)}, {w(1 << 63), w(5)}, {{1<<64 - 30, 1<<64 - 1, 1<<64 - 1, 1<<64 - 1}, w(60)},
	} {
		for _, at := range []uint64{0, 90} {
			wantRefused(t, "RETURNDATACOPY of more than there is", behindACall(50, trial{op: 0x3e, words: []api.Word{w(at), x[0], x[1]}}), 1000, api.ErrData)
		}
	}
	wantRefused(t, "where nothing was returned", trial{op: 0x3e, words: []api.Word{w(0), w(0), w(1)}}, 1000, api.ErrData)
	wantRefused(t, "where nothing was returned", trial{op: 0x3e, words: []api.Word{w(0), w(1), w(0)}}, 1000, api.ErrData)
	m, _, v := trial{op: 0x3e, words: []api.Word{most(), w(0), w(0)}}.do(t)
	wantKind(t, "nothing of nothing", v, api.EventPause)
	wantBytes(t, "nothing of nothing", m.Memory(), nil)
}

// P15.3, P15.4: what was returned last counts, a fault behind it leaves it.
func TestReturnedLast(t *testing.T) {
	code := slices.Concat(with(call, make([]api.Word, 7)...), with(staticcall, make([]api.Word, 6)...), with(create, make([]api.Word, 3)...), []byte{0x0c})
	m := start(t, newState(), newEnv(), newFrame(code))
	for i, x := range []struct{ out, want string }{{"first", "first"}, {"2nd", "2nd"}, {"third", ""}} {
		wantKind(t, "it asks", m.Run(100), api.EventAsk)
		wantErrno(t, "Reply", m.Reply(api.Reply{OK: true, Out: []byte(x.out), Made: bare}), api.OK)
		wantBytes(t, "returned", m.Returned(), []byte(x.want))
		wantNumber(t, "the stack", uint64(len(m.Stack())), uint64(i+1))
	}
	wantFault(t, "the end", m.Run(100), api.ErrOpcode)
	wantStack(t, "the end", m, w(1), w(1), of(bare))
}
