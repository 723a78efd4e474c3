package machine_test

import (
	"bytes"
	"slices"
	"testing"

	"cairn/api"
	"cairn/machine"
)

func TestWordAndAddress(t *testing.T) { // P15.5
	a := api.Address{1, 2, 3, 4, 5, 6, 7, 8, 9, 10, 11, 12, 13, 14, 15, 16, 17, 18, 19, 20}
	x := api.Word{0x0d0e0f1011121314, 0x05060708090a0b0c, 0x01020304, 0}
	wantTrue(t, "Word", machine.Word(a) == x)
	wantTrue(t, "Address", machine.Address(x) == a)
	wantTrue(t, "Address of one with more above", machine.Address(api.Word{x[0], x[1], x[2] | 0xffffffff00000000, 1<<64 - 1}) == a)
	wantTrue(t, "of noughts", machine.Word(api.Address{}) == api.Word{} && machine.Address(api.Word{}) == api.Address{})
	wantTrue(t, "of 1", machine.Word(api.Address{19: 1}) == w(1) && machine.Address(w(1)) == api.Address{19: 1})
	wantTrue(t, "the highest byte", machine.Word(api.Address{0: 0x80}) == api.Word{0, 0, 1 << 31, 0})
	wantTrue(t, "the 21st byte", machine.Address(api.Word{0, 0, 1 << 32, 0}) == api.Address{})
	wantTrue(t, "the greatest", machine.Address(most()) == api.Address(bytes.Repeat([]byte{0xff}, 20)))
	for i := range 300 {
		r := row(i)
		a := api.Address(r.bytes(20))
		wantTrue(t, "there", machine.Word(a) == ofBytes(a[:]))
		wantTrue(t, "there and back", machine.Address(machine.Word(a)) == a)
	}
}

func TestTold(t *testing.T) { // P15.4
	code := slices.Concat([]byte{0x60, 5, 0x61, 1, 2}, with(0x53, w(33), w(9)), []byte{0x60})
	f := newFrame(code)
	f.Gas = 1000
	m := start(t, newState(), newEnv(), f)
	for _, x := range []struct {
		stack  []api.Word
		memory []byte
		gas    uint64
		place  int
	}{
		{nil, nil, 1000, 0},
		{[]api.Word{w(5)}, nil, 997, 2},
		{[]api.Word{w(5), w(258)}, nil, 994, 5},
		{[]api.Word{w(5), w(258), w(9)}, nil, 991, 38},
		{[]api.Word{w(5), w(258), w(9), w(33)}, nil, 988, 71},
		{[]api.Word{w(5), w(258)}, append(make([]byte, 33), append([]byte{9}, make([]byte, 30)...)...), 979, 72},
		{[]api.Word{w(5), w(258), w(0)}, append(make([]byte, 33), append([]byte{9}, make([]byte, 30)...)...), 976, 73},
	} {
		wantStack(t, "Stack", m, x.stack...)
		wantBytes(t, "Memory", m.Memory(), x.memory)
		wantNumber(t, "Gas", m.Gas(), x.gas)
		wantNumber(t, "Place", uint64(m.Place()), uint64(x.place))
		wantBytes(t, "Returned", m.Returned(), nil)
		m.Run(1)
	}
	wantNumber(t, "Steps", uint64(m.Steps()), 7)
}

func TestPlaceOfAFault(t *testing.T) { // P15.4, 15.1
	m, v := ran(t, []byte{0x60, 1, 0x5b, 0x60, 7, 0x56, 0x5b})
	wantFault(t, "a fault", v, api.ErrJump)
	wantNumber(t, "its place", uint64(m.Place()), 5)
	wantStack(t, "its stack", m, w(1), w(7))
	wantNumber(t, "its steps", uint64(m.Steps()), 4)
	wantNumber(t, "its gas", m.Gas(), 0)
}

// busy is a machine in the midst of everything: asking, or at an end.
func busy(t *testing.T, code ...[]byte) *machine.Machine {
	t.Helper()
	ahead := slices.Concat(fill(3), []byte{0x60, 7}, with(callcode, w(0), of(bare), w(0), w(0), w(0), w(0), w(0)))
	m := start(t, newState(), newEnv(), newFrame(append([][]byte{ahead}, code...)...))
	wantKind(t, "preparing", m.Run(100), api.EventAsk)
	wantErrno(t, "preparing", m.Reply(api.Reply{OK: true, Out: []byte("returned")}), api.OK)
	return m
}

func TestWhatIsToldIsNotShared(t *testing.T) { // P2
	for what, code := range map[string][]byte{
		"asking": with(call, w(9), of(coded), w(0), w(0), w(40), w(0), w(96)), "returning": with(0xf3, w(0), w(50)), "reverting": with(0xfd, w(0), w(50)),
		"creating": with(create, w(9), w(0), w(50)),
	} {
		m := busy(t, code)
		v := m.Run(100)
		text, before := eventText(v), told(m)
		for range 2 {
			spoil(m.Stack(), w(99))
			spoil(m.Memory(), 0xee)
			spoil(m.Returned(), 0xee)
			spoil(v.Out, 0xee)
			spoil(v.Ask.Input, 0xee)
			wantText(t, what, told(m), before)
			v = m.Run(1)
			wantText(t, what+": the event", eventText(v), text)
		}
	}
}

func TestAnswersKeepTheirs(t *testing.T) { // P2: what was told stays as it was told, whatever the machine does then
	m := busy(t, with(call, w(9), of(coded), w(0), w(0), w(40), w(0), w(96)), with(0x52, w(0), w(1)), with(0x03, w(1), w(2)))
	v := m.Run(100)
	stack, memory, returned := m.Stack(), m.Memory(), m.Returned()
	text := eventText(v)
	out := []byte("another")
	m.Reply(api.Reply{Out: out})
	spoil(out, 0xee)
	wantBytes(t, "what was replied", m.Returned(), []byte("another"))
	wantBytes(t, "and what was laid", m.Memory()[:8], append([]byte("another"), input(8)[7]))
	m.Run(100)
	wantTrue(t, "the stack", slices.Equal(stack, []api.Word{w(7), w(1)}))
	wantBytes(t, "the memory", memory, input(96))
	wantBytes(t, "what was returned", returned, []byte("returned"))
	wantText(t, "the event", eventText(v), text)
}

func TestWhatIsHandedInIsNotKept(t *testing.T) { // P2
	code := slices.Concat(with(0x35, w(0)), with(0x40, w(999)), with(0x49, w(0)), with(0x39, w(0), w(0), w(32)), with(0x51, w(0)))
	e, f := newEnv(), newFrame(code)
	want := start(t, newState(), newEnv(), newFrame(code))
	m := start(t, newState(), e, f)
	spoil(e.Blobs, api.Hash{0xee})
	spoil(e.Hashes, api.Hash{0xee})
	spoil(f.Input, 0xee)
	spoil(f.Code, 0xee)
	m.Run(100)
	want.Run(100)
	wantText(t, "handed in", told(m), told(want))
}

func TestWhatIsHandedInIsNotChanged(t *testing.T) { // P2
	code := slices.Concat(with(0x37, w(0), w(0), w(64)), with(0x39, w(0), w(1), w(500)), with(0x53, w(0), w(3)), with(call, make([]api.Word, 7)...),
		with(0x3e, w(2), w(0), w(3)), with(0x52, w(0), most()), with(0xf3, w(0), w(60)))
	e, f := newEnv(), newFrame()
	f.Code = roomy(code, 0xee, 0xee)
	f.Input = roomy(input(50), 0xee, 0xee)
	e.Blobs = roomy(e.Blobs, api.Hash{0xee})
	e.Hashes = roomy(e.Hashes[:256], api.Hash{0xee})
	m := start(t, newState(), e, f)
	wantKind(t, "it asks", m.Run(100), api.EventAsk)
	out := roomy([]byte("out"), 0xee)
	m.Reply(api.Reply{Out: out})
	wantKind(t, "it ends", m.Run(100), api.EventReturn)
	wantBytes(t, "the code", f.Code[:len(code)+2], append(slices.Clone(code), 0xee, 0xee))
	wantBytes(t, "the input", f.Input[:52], append(input(50), 0xee, 0xee))
	wantBytes(t, "the reply", out[:4], []byte{'o', 'u', 't', 0xee})
	wantTrue(t, "the hashes", slices.Equal(e.Hashes[:257], append(hashes(256), api.Hash{0xee})))
	wantTrue(t, "the blobs", slices.Equal(e.Blobs[:3], append(newEnv().Blobs, api.Hash{0xee})))
}

func TestNilAndEmptyAreTheSame(t *testing.T) { // P3
	code := slices.Concat([]byte{0x36}, with(0x40, w(999)), with(0x49, w(0)), with(0x37, w(0), w(0), w(1)), with(call, make([]api.Word, 7)...), []byte{0x3d})
	texts := map[string]bool{}
	for _, none := range [][]byte{nil, {}, []byte("x")[:0]} {
		for _, hashes := range [][]api.Hash{nil, {}, make([]api.Hash, 1)[:0]} {
			m := start(t, newState(), api.Env{Number: 1000, Blobs: hashes, Hashes: hashes}, api.Frame{Code: code, Input: none, Gas: 100000})
			v := m.Run(100)
			m.Reply(api.Reply{Out: none})
			m.Run(100)
			texts[eventText(v)+told(m)] = true
			m = start(t, newState(), api.Env{}, api.Frame{Code: none})
			wantKind(t, "no code", m.Run(1), api.EventStop)
		}
	}
	wantNumber(t, "one answer", uint64(len(texts)), 1)
}
