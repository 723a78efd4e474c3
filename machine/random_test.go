package machine_test

import (
	"bytes"
	"fmt"
	"slices"
	"testing"

	"cairn/api"
	"cairn/gas"
	"cairn/machine"
	"cairn/state"
)

// program is code made as if by chance, and what is replied where it asks.
type program struct {
	f       api.Frame
	e       api.Env
	replies row
}

// place is a place of the memory, or a length: mostly near its beginning.
func (r *row) place() api.Word {
	switch r.below(60) {
	case 0:
		return r.word()
	case 1:
		return w(uint64(r.below(200000)))
	case 2:
		return pick(r, w(8388608), w(8388607), w(1<<63), api.Word{0, 1}, most())
	}
	return w(uint64(r.below(100)))
}

func (r *row) long() api.Word {
	if r.is(3) {
		return w(0)
	}
	return r.place()
}

func (r *row) address() api.Word {
	x := of(pick(r, addresses()...))
	if r.is(4) {
		return spoilt(machine.Address(x))
	}
	return x
}

func (r *row) key() api.Word { return pick(r, keys()[:4]...) }

func (r *row) value() api.Word { return pick(r, w(0), w(0), w(1), w(5), w(600), most()) }

// operands are words that an opcode may take, a first; none of those for which any words do.
func (r *row) operands(op byte) []api.Word {
	switch op {
	case 0x20, 0xf3, 0xfd:
		return []api.Word{r.place(), r.long()}
	case 0x31, 0x3b, 0x3f, 0xff:
		return []api.Word{r.address()}
	case 0x35, 0x51:
		return []api.Word{r.place()}
	case 0x3e:
		return []api.Word{r.place(), pick(r, w(0), w(1), r.place()), w(uint64(r.below(10)))}
	case 0x37, 0x39, 0x5e:
		return []api.Word{r.place(), r.place(), r.long()}
	case 0x3c:
		return []api.Word{r.address(), r.place(), r.place(), r.long()}
	case 0x40:
		return []api.Word{pick(r, w(1000), w(999), w(900), w(744), w(743), r.word())}
	case 0x49:
		return []api.Word{pick(r, w(0), w(1), w(2), r.word())}
	case 0x52, 0x53:
		return []api.Word{r.place(), r.word()}
	case 0x54, 0x5c:
		return []api.Word{r.key()}
	case 0x55, 0x5d:
		return []api.Word{r.key(), r.value()}
	case 0xa0, 0xa1, 0xa2, 0xa3, 0xa4:
		l := []api.Word{r.place(), r.long()}
		for range op - 0xa0 {
			l = append(l, r.word())
		}
		return l
	case 0xf0:
		return []api.Word{r.value(), r.place(), r.long()}
	case 0xf5:
		return []api.Word{r.value(), r.place(), r.long(), r.word()}
	case 0xf1, 0xf2:
		return []api.Word{r.gas(), r.address(), r.value(), r.place(), r.long(), r.place(), r.long()}
	case 0xf4, 0xfa:
		return []api.Word{r.gas(), r.address(), r.place(), r.long(), r.place(), r.long()}
	}
	var l []api.Word
	o, _ := gas.Op(op)
	for range o.Pops {
		l = append(l, r.word())
	}
	return l
}

func (r *row) gas() api.Word { return pick(r, w(0), w(uint64(r.below(5000))), r.word()) }

// jump is a jump, or one that hangs on a word, over an instruction behind it, or to anywhere.
func (r *row) jump(at int) []byte {
	b := []byte{0x61, 0, 0, 0x56}
	if r.is(2) {
		b = []byte{0x60, byte(r.below(2)), 0x61, 0, 0, 0x57}
	}
	to := at + len(b) + 1
	if r.is(8) {
		to = r.below(300)
	}
	b[len(b)-3], b[len(b)-2] = byte(to>>8), byte(to)
	return append(b, 0x58, 0x5b)
}

// code is some instructions with what they take ahead of them, and now and then something else.
func (r *row) code() []byte {
	var b []byte
	for range 1 + r.below(30) {
		op := r.op()
		switch {
		case op == 0x56 || op == 0x57:
			b = append(b, r.jump(len(b))...)
		case r.is(40):
			b = append(b, r.bytes(1)...)
		case op >= 0x60 && op <= 0x7f:
			b = append(append(b, op), r.bytes(int(op)-0x5f)...)
		case op >= 0x80 && op <= 0x9f:
			if !r.is(8) {
				op = op&0xf0 | byte(r.below(3))
			}
			b = append(b, with(op, r.word(), r.word(), r.word(), r.word())...)
		default:
			b = append(b, with(op, r.operands(op)...)...)
		}
	}
	if r.is(4) {
		return b[:len(b)-r.below(min(len(b), 33))]
	}
	if r.is(2) {
		op := pick(r, byte(0xf3), 0xfd, 0xff)
		b = append(b, with(op, r.operands(op)...)...)
	}
	return b
}

// op is any opcode but, mostly, those that end.
func (r *row) op() byte {
	for {
		op := byte(r.below(256))
		if _, is := gas.Op(op); is && (r.is(12) || op != 0 && op != 0xf3 && op != 0xfd && op != 0xff) {
			return op
		}
	}
}

func (r *row) program() program {
	f := newFrame(r.code())
	f.Input = input(r.below(120))
	f.Gas = pick(r, uint64(r.below(1000)), uint64(r.below(60000)), uint64(r.below(400000)), api.MaxGas)
	f.Static = r.is(5)
	f.Value = r.word()
	if r.is(20) {
		f.Self = pick(r, addresses()...)
	}
	e := newEnv()
	e.Number = pick[uint64](r, 0, 1, 5, 300, 1000, 1<<64-1)
	e.Hashes = hashes(pick(r, 0, 1, 256, 300))
	return program{f: f, e: e, replies: *r}
}

// reply is what comes of what is asked for.
func (r *row) reply(ask api.Ask) api.Reply {
	more := pick(r, 0, ask.Gas, uint64(r.below(int(ask.Gas+1))))
	return api.Reply{OK: r.is(2), Gas: more, Out: r.bytes(pick(r, 0, r.below(10), r.below(200))), Made: pick(r, addresses()...)}
}

// same answers whether both machines tell the same of themselves.
func same(m, n machining) bool {
	return slices.Equal(m.Stack(), n.Stack()) && bytes.Equal(m.Memory(), n.Memory()) && bytes.Equal(m.Returned(), n.Returned()) &&
		m.Gas() == n.Gas() && m.Place() == n.Place() && m.Steps() == n.Steps()
}

// wantSame holds both machines, and the events, against one another.
func wantSame(t *testing.T, what string, m, n machining, v, u api.Event) {
	t.Helper()
	wantText(t, what+": the event", eventText(v), eventText(u))
	if !same(m, n) {
		wantText(t, what, told(m), told(n))
	}
}

// ready makes accounts fresh, or warm, now and then.
func (r row) ready(s *state.State) {
	if r.is(3) {
		s.Create(self)
		s.Add(self, w(uint64(r.below(3))))
	}
	for range r.below(4) {
		s.Warm(pick(&r, addresses()...))
		s.WarmSlot(self, r.key())
	}
}

// 15.1, 15.2, P15.2, P15.3: machine and model do the same, instruction by instruction.
func TestModel(t *testing.T) {
	for i := range 3000 {
		r := row(i)
		p := r.program()
		s, z := newState(), newState()
		r.ready(s)
		r.ready(z)
		m, n := start(t, s, p.e, p.f), newModel(z, p.e, p.f)
		what := fmt.Sprintf("program %d, code %x, static %v", i, p.f.Code, p.f.Static)
		for !t.Failed() {
			v, u := m.Run(1), n.Run(1)
			wantSame(t, what, m, n, v, u)
			if u.Kind == api.EventAsk {
				reply := p.replies.reply(u.Ask)
				wantErrno(t, what, m.Reply(reply), n.Reply(reply))
				wantSame(t, what+", replied", m, n, m.Run(0), n.Run(0))
			} else if u.Kind != api.EventPause {
				break
			}
		}
		wantText(t, what+": the state", stateText(s), stateText(z))
		wantText(t, what+": the state at the end", endText(s), endText(z))
		if t.Failed() {
			return
		}
	}
}

// finish runs a machine in portions till it stands still, with the replies of the program, and tells all that it told but pauses.
func (p program) finish(t *testing.T, m machining, portion func() int) string {
	t.Helper()
	text := ""
	for runs := 0; runs < plenty && m.Steps() < plenty; runs++ {
		v := m.Run(portion())
		switch v.Kind {
		case api.EventPause:
			continue
		case api.EventAsk:
			text += eventText(v) + "\n" + told(m)
			wantErrno(t, "Reply", m.Reply(p.replies.reply(v.Ask)), api.OK)
			wantKind(t, "it goes on", m.Run(0), api.EventPause)
			goOn(t)
		default:
			return text + eventText(v) + "\n" + told(m)
		}
	}
	t.Fatal("it goes on for ever")
	return ""
}

// P15.6: Run of some and then of more is Run of all of them.
func TestStepByStep(t *testing.T) {
	for i := range 600 {
		r := row(i + 5000)
		p := r.program()
		whole := newState()
		want := p.finish(t, start(t, whole, p.e, p.f), func() int { return plenty })
		text := stateText(whole)
		for what, portion := range map[string]func() int{
			"one by one": func() int { return 1 }, "two by two": func() int { return 2 }, "by chance": func() int { return r.below(7) - 1 },
		} {
			s := newState()
			wantText(t, what, p.finish(t, start(t, s, p.e, p.f), portion), want)
			wantText(t, what+": the state", stateText(s), text)
		}
	}
}

// P15.7: what a machine does is bounded by its gas, its stack by MaxStack; its memory is whole words; its gas never grows but by replies.
func TestItHalts(t *testing.T) {
	for i := range 600 {
		r := row(i + 9000)
		p := r.program()
		m := start(t, newState(), p.e, p.f)
		gone, given, steps := m.Gas(), uint64(0), 0
		for !t.Failed() {
			v := m.Run(1)
			wantTrue(t, "the gas does not grow", m.Gas() <= gone)
			wantTrue(t, "the stack is no higher", len(m.Stack()) <= api.MaxStack)
			wantTrue(t, "the memory is whole words", len(m.Memory())%32 == 0 && len(m.Memory()) <= api.MaxMemory)
			wantTrue(t, "steps are bounded, and grow", uint64(m.Steps()) <= p.f.Gas+given+1 && m.Steps() > steps && steps < plenty)
			steps = m.Steps()
			if v.Kind == api.EventAsk {
				reply := p.replies.reply(v.Ask)
				given += reply.Gas
				before := m.Gas()
				m.Reply(reply)
				wantNumber(t, "the gas behind a reply", m.Gas(), before+reply.Gas)
			} else if v.Kind != api.EventPause {
				break
			}
			gone = m.Gas()
		}
	}
}
