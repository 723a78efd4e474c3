package machine_test

import (
	"bytes"
	"fmt"
	"slices"
	"testing"

	"cairn/api"
	"cairn/digest"
)

// roomed is an opcode that takes a room of the memory: the words that it takes for one, and what it costs but for the memory.
type roomed struct {
	name  string
	op    byte
	words func(at, long api.Word) []api.Word
	cost  func(long uint64) uint64 // 0 long: in any case
	ready func(x *trial)
}

func ceil(n uint64) uint64 { return (n + 31) / 32 }

// pair is a room alone.
func pair(at, long api.Word) []api.Word { return []api.Word{at, long} }

// allRoomed are the opcodes whose room may be of any length.
func allRoomed() []roomed {
	warm := func(x *trial) { x.ahead = with(0x31, of(coded)) }
	call := func(value bool, out bool) func(at, long api.Word) []api.Word {
		return func(at, long api.Word) []api.Word {
			l := []api.Word{w(0), of(coded)}
			if value {
				l = append(l, w(0))
			}
			if out {
				return append(l, w(0), w(0), at, long)
			}
			return append(l, at, long, w(0), w(0))
		}
	}
	plain := func(n uint64) func(uint64) uint64 { return func(uint64) uint64 { return n } }
	byWords := func(n, each uint64) func(uint64) uint64 {
		return func(long uint64) uint64 { return n + each*ceil(long) }
	}
	logs := func(topics uint64) roomed {
		return roomed{fmt.Sprintf("LOG%d", topics), byte(0xa0 + topics), func(at, long api.Word) []api.Word {
			return append([]api.Word{at, long}, make([]api.Word, topics)...)
		}, func(long uint64) uint64 { return 375 + 375*topics + 8*long }, nil}
	}
	copies := func(at, long api.Word) []api.Word { return []api.Word{at, w(0), long} }
	return []roomed{
		{"KECCAK256", 0x20, pair, byWords(30, 6), nil},
		{"RETURN", 0xf3, pair, plain(0), nil},
		{"REVERT", 0xfd, pair, plain(0), nil},
		{"CALLDATACOPY", 0x37, copies, byWords(3, 3), nil},
		{"CODECOPY", 0x39, copies, byWords(3, 3), nil},
		{"EXTCODECOPY", 0x3c, func(at, long api.Word) []api.Word { return []api.Word{of(coded), at, w(0), long} }, byWords(100, 3), warm},
		{"RETURNDATACOPY", 0x3e, copies, byWords(3, 3), func(x *trial) {
			x.ahead = with(0xf1, w(0), of(coded), w(0), w(0), w(0), w(0), w(0))
			x.reply = api.Reply{Out: input(5000)}
		}},
		{"MCOPY", 0x5e, func(at, long api.Word) []api.Word { return []api.Word{at, at, long} }, byWords(3, 3), nil},
		{"MCOPY to", 0x5e, func(at, long api.Word) []api.Word { return []api.Word{at, w(0), long} }, byWords(3, 3), nil},
		{"MCOPY from", 0x5e, func(at, long api.Word) []api.Word { return []api.Word{w(0), at, long} }, byWords(3, 3), nil},
		logs(0), logs(1), logs(2), logs(3), logs(4),
		{"CALL input", 0xf1, call(true, false), plain(100), warm},
		{"CALL output", 0xf1, call(true, true), plain(100), warm},
		{"CALLCODE input", 0xf2, call(true, false), plain(100), warm},
		{"CALLCODE output", 0xf2, call(true, true), plain(100), warm},
		{"DELEGATECALL input", 0xf4, call(false, false), plain(100), warm},
		{"DELEGATECALL output", 0xf4, call(false, true), plain(100), warm},
		{"STATICCALL input", 0xfa, call(false, false), plain(100), warm},
		{"STATICCALL output", 0xfa, call(false, true), plain(100), warm},
		{"CREATE", 0xf0, func(at, long api.Word) []api.Word { return []api.Word{w(0), at, long} }, byWords(32000, 2), nil},
		{"CREATE2", 0xf5, func(at, long api.Word) []api.Word { return []api.Word{w(0), at, long, w(0)} }, byWords(32000, 8), nil},
	}
}

func (o roomed) trial(at, long api.Word) trial {
	x := trial{op: o.op, words: o.words(at, long)}
	if o.ready != nil {
		o.ready(&x)
	}
	return x
}

// memoryCost is what a memory of so many words costs.
func memoryCost(words uint64) uint64 { return 3*words + words*words/512 }

// 15.2: what a room costs, and that the memory has it then.
func TestRooms(t *testing.T) {
	for _, o := range allRoomed() {
		for _, x := range [][2]uint64{{0, 1}, {0, 32}, {0, 33}, {31, 1}, {31, 2}, {32, 32}, {64, 100}, {1000, 1}, {40000, 3000}} {
			at, long := x[0], x[1]
			words := ceil(at + long)
			what := fmt.Sprintf("%s of %d bytes at %d", o.name, long, at)
			wantCost(t, what, o.trial(w(at), w(long)), memoryCost(words)+o.cost(long))
			m, _, _ := o.trial(w(at), w(long)).do(t)
			wantNumber(t, what+": the memory", uint64(len(m.Memory())), 32*words)
		}
	}
}

// 15.2: what the memory has already costs nothing, and what is new costs what is between.
func TestRoomsThatGrow(t *testing.T) {
	for _, o := range allRoomed() {
		for _, x := range [][3]uint64{{100, 0, 3200}, {100, 3199, 1}, {100, 3199, 2}, {100, 3200, 1}, {1000, 40000, 3000}} {
			had, at, long := x[0], x[1], x[2]
			tried := o.trial(w(at), w(long))
			tried.ahead = append(tried.ahead, with(0x51, w(32*had-32))...)
			words := max(had, ceil(at+long))
			what := fmt.Sprintf("%s of %d bytes at %d, %d words there", o.name, long, at, had)
			m, _, v := tried.do(t)
			wantTrue(t, what, v.Kind != api.EventFault)
			wantNumber(t, what, uint64(len(m.Memory())), 32*words)
			wantCost(t, what, tried, memoryCost(words)-memoryCost(had)+o.cost(long))
		}
	}
}

// farAway are places that no memory has.
func farAway() []api.Word {
	return []api.Word{w(8388608), w(8388609), w(1 << 32), w(1 << 63), w(1<<64 - 1), w(1<<64 - 32), {0, 1}, {5, 0, 0, 1}, {0, 0, 1}, most()}
}

// 15.2: where a length is 0, the memory doesn't grow, wherever the place is.
func TestRoomsOfNothing(t *testing.T) {
	for _, o := range allRoomed() {
		for _, at := range append(farAway(), w(0), w(1), w(1000)) {
			x := o.trial(at, w(0))
			what := o.name + " of nothing"
			m, _, v := x.do(t)
			wantTrue(t, what, v.Kind != api.EventFault)
			wantNumber(t, what, uint64(len(m.Memory())), 0)
			wantTrue(t, what, len(v.Out) == 0 && len(v.Ask.Input) == 0)
			if cost := o.cost(0); cost > 0 {
				wantCost(t, what, x, cost)
			} else {
				m := x.at(t, x.state(), 0)
				wantTrue(t, what, m.Run(1).Kind != api.EventFault)
			}
		}
	}
}

// 15.2: what no memory has costs more than there is.
func TestRoomsFarAway(t *testing.T) {
	for _, o := range allRoomed() {
		for _, at := range farAway() {
			wantRefused(t, o.name+" far away", o.trial(at, w(1)), 30000000, api.ErrGas)
			wantRefused(t, o.name+" of much", o.trial(w(0), at), 30000000, api.ErrGas)
			wantRefused(t, o.name+" of much, far away", o.trial(at, at), 30000000, api.ErrGas)
			wantRefused(t, o.name+" that wraps round", o.trial(at, wordOf(two(256).Sub(two(256), bigOf(at)))), 30000000, api.ErrGas)
		}
	}
	for _, op := range []byte{0x51, 0x52, 0x53} {
		for _, at := range farAway() {
			wantRefused(t, "a word far away", trial{op: op, words: []api.Word{at, w(1)}[:min(2, int(op)-0x50)]}, 30000000, api.ErrGas)
		}
	}
}

// 15.2: MLOAD, MSTORE, MSTORE8: what they cost, and what the memory is then.
func TestWordsOfMemory(t *testing.T) {
	x := api.Word{0x0102030405060708, 0x1112131415161718, 0x2122232425262728, 0x31323334353637f8}
	b := push(x)[1:]
	for _, at := range []uint64{0, 1, 31, 32, 33, 95, 1000} {
		size := 32 * ceil(at+32)
		m, _, _ := trial{op: 0x52, words: []api.Word{w(at), x}}.do(t)
		want := make([]byte, size)
		copy(want[at:], b)
		wantBytes(t, "MSTORE", m.Memory(), want)
		wantCost(t, "MSTORE", trial{op: 0x52, words: []api.Word{w(at), x}}, 3, memoryCost(size/32))

		m, _, _ = trial{op: 0x51, words: []api.Word{w(at)}}.do(t)
		wantStack(t, "MLOAD of nothing", m, w(0))
		wantBytes(t, "MLOAD of nothing", m.Memory(), make([]byte, size))
		wantCost(t, "MLOAD", trial{op: 0x51, words: []api.Word{w(at)}}, 3, memoryCost(size/32))

		size = 32 * ceil(at+1)
		m, _, _ = trial{op: 0x53, words: []api.Word{w(at), x}}.do(t)
		want = make([]byte, size)
		want[at] = 8
		wantBytes(t, "MSTORE8", m.Memory(), want)
		wantCost(t, "MSTORE8", trial{op: 0x53, words: []api.Word{w(at), x}}, 3, memoryCost(size/32))
	}
	for _, at := range []uint64{0, 1, 7, 31, 32, 64} {
		want := append(input(96), make([]byte, 64)...)[at : at+32]
		wantPush(t, "MLOAD", trial{ahead: fill(3), op: 0x51, words: []api.Word{w(at)}}, ofBytes(want))
	}
	m, _, _ := trial{ahead: fill(2), op: 0x52, words: []api.Word{w(5), x}}.do(t)
	wantBytes(t, "MSTORE over others", m.Memory(), slices.Concat(input(5), b, input(64)[37:]))
	m, _, _ = trial{ahead: fill(2), op: 0x53, words: []api.Word{w(5), w(0x1ff)}}.do(t)
	wantBytes(t, "MSTORE8 over others", m.Memory(), slices.Concat(input(5), []byte{0xff}, input(64)[6:]))
	wantPush(t, "MSIZE", trial{ahead: append(fill(3), with(0x53, w(128), w(0))...), op: 0x59}, w(160))
}

// The sources of bytes that are copied: the opcode, the words that it takes for a room and a place, and the bytes.
func sources() map[string]struct {
	x     trial
	words func(at, from, long api.Word) []api.Word
	bytes []byte
} {
	three := func(at, from, long api.Word) []api.Word { return []api.Word{at, from, long} }
	type source = struct {
		x     trial
		words func(at, from, long api.Word) []api.Word
		bytes []byte
	}
	return map[string]source{
		"CALLDATACOPY": {trial{op: 0x37, ahead: fill(3)}, three, input(50)},
		"CODECOPY":     {trial{op: 0x39, ahead: fill(3)}, three, nil},
		"EXTCODECOPY": {trial{op: 0x3c, ahead: fill(3)}, func(at, from, long api.Word) []api.Word {
			return []api.Word{spoilt(coded), at, from, long}
		}, codeOfCoded()},
		"EXTCODECOPY of none": {trial{op: 0x3c, ahead: fill(3)}, func(at, from, long api.Word) []api.Word {
			return []api.Word{of(absent), at, from, long}
		}, []byte{}},
	}
}

// 15.2: the copies, with noughts beyond the end.
func TestCopies(t *testing.T) {
	for what, source := range sources() {
		for _, at := range []uint64{0, 1, 40, 96, 100} {
			for _, from := range append(farAway(), w(0), w(1), w(20), w(39), w(40), w(41), w(49), w(50), w(51)) {
				for _, long := range []uint64{0, 1, 10, 32, 60} {
					x := source.x
					x.words = source.words(w(at), from, w(long))
					b := source.bytes
					if b == nil { // the code itself, which hangs on the words
						b = append(bytes.Clone(x.ahead), with(x.op, x.words...)...)
					}
					want := input(96)
					if long > 0 {
						want = append(want, make([]byte, 32*max(3, ceil(at+long))-96)...)
						for i := range long {
							want[at+i] = 0
							if n := bigOf(from).Add(bigOf(from), bigOf(w(i))); n.IsInt64() && n.Int64() < int64(len(b)) {
								want[at+i] = b[n.Int64()]
							}
						}
					}
					m, _, v := x.do(t)
					wantKind(t, what, v, api.EventPause)
					wantBytes(t, fmt.Sprintf("%s of %d bytes from %v to %d", what, long, from, at), m.Memory(), want)
				}
			}
		}
	}
}

// 15.2: EXTCODECOPY makes the address warm, whatever else it costs.
func TestCostOfExtcodecopy(t *testing.T) {
	x := trial{op: 0x3c, words: []api.Word{of(coded), w(100), w(0), w(40)}}
	wantCost(t, "cold", x, 2600, memoryCost(5), 6)
	for _, left := range []uint64{0, 99, 2599, 2600, 2620} {
		wantTrue(t, "warm", wantRefused(t, "cold", x, left, api.ErrGas).Warm(coded))
	}
	x.words[1] = most()
	wantTrue(t, "warm", wantRefused(t, "far away", x, 30000000, api.ErrGas).Warm(coded))
}

// 15.2: MCOPY of places that overlap, and that lie apart.
func TestMcopy(t *testing.T) {
	for _, x := range [][3]uint64{
		{0, 1, 40}, {1, 0, 40}, {10, 0, 96}, {0, 10, 86}, {5, 5, 20}, {32, 0, 32}, {64, 0, 40}, {90, 80, 20}, {0, 90, 20}, {200, 3, 7}, {3, 200, 7}, {7, 9, 0},
	} {
		to, from, long := x[0], x[1], x[2]
		m, _, v := trial{ahead: fill(3), op: 0x5e, words: []api.Word{w(to), w(from), w(long)}}.do(t)
		wantKind(t, "MCOPY", v, api.EventPause)
		size := uint64(96)
		if long > 0 {
			size = 32 * max(3, ceil(to+long), ceil(from+long))
		}
		old := append(input(96), make([]byte, size-96)...)
		want := bytes.Clone(old)
		for i := range long {
			want[to+i] = old[from+i]
		}
		wantBytes(t, fmt.Sprintf("MCOPY of %d bytes from %d to %d", long, from, to), m.Memory(), want)
	}
	wantCost(t, "MCOPY", trial{op: 0x5e, words: []api.Word{w(0), w(100), w(64)}}, 3, memoryCost(2), memoryCost(6)-memoryCost(2), 6)
	wantCost(t, "MCOPY", trial{op: 0x5e, words: []api.Word{w(100), w(0), w(64)}}, 3, memoryCost(6), 6)
}

func TestKeccak(t *testing.T) { // 15.2
	for _, x := range [][2]uint64{{0, 0}, {0, 1}, {0, 96}, {5, 40}, {95, 1}, {90, 20}, {500, 3}} {
		b := append(input(96), make([]byte, 600)...)[x[0] : x[0]+x[1]]
		h := digest.Keccak(b)
		wantPush(t, "KECCAK256", trial{ahead: fill(3), op: 0x20, words: []api.Word{w(x[0]), w(x[1])}}, ofBytes(h[:]))
	}
	wantCost(t, "KECCAK256", trial{op: 0x20, words: []api.Word{w(0), w(33)}}, 30, memoryCost(2), 12)
}

func TestReturnAndRevert(t *testing.T) { // 15.2
	for op, kind := range map[byte]api.EventKind{0xf3: api.EventReturn, 0xfd: api.EventRevert} {
		for _, x := range [][2]uint64{{0, 0}, {0, 1}, {0, 96}, {5, 40}, {90, 20}, {500, 3}} {
			m, s, v := trial{ahead: fill(3), op: op, words: []api.Word{w(x[0]), w(x[1])}, behind: []byte{0x5b}}.do(t)
			want := append(input(96), make([]byte, 600)...)[x[0] : x[0]+x[1]]
			wantEvent(t, "returned", v, api.Event{Kind: kind, Out: want})
			size := uint64(96)
			if x[1] > 0 {
				size = max(96, 32*ceil(x[0]+x[1]))
			}
			wantNumber(t, "the memory", uint64(len(m.Memory())), size)
			wantStack(t, "the stack", m)
			wantText(t, "the state", stateText(s), stateText(newState()))
			wantTrue(t, "nothing was returned to it", len(m.Returned()) == 0)
		}
	}
}
