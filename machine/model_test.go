package machine_test

import (
	"bytes"
	"math/big"
	"slices"

	"cairn/api"
	"cairn/digest"
	"cairn/gas"
	"cairn/state"
)

// model is a machine by the chapter's words, as plain as can be: its words are whole numbers, a fault is a panic, and what it leaves as it
// was is copied ahead of each instruction. Of the layers below it takes the costs that are not of memory, digests, and the state.
type model struct {
	s *state.State
	e api.Env
	f api.Frame
	moment
	gas      uint64
	returned []byte
	steps    int
	event    api.Event
	from, to int // of the memory that takes a call's answer
}

// moment is what a fault leaves as it was.
type moment struct {
	stack  []*big.Int
	memory []byte
	place  int
}

func (x moment) copied() moment {
	return moment{stack: slices.Clone(x.stack), memory: bytes.Clone(x.memory), place: x.place}
}

func newModel(s *state.State, e api.Env, f api.Frame) *model {
	return &model{s: s, e: e, f: f, gas: f.Gas}
}

func (m *model) Run(most int) api.Event {
	for ; most > 0 && m.event.Kind == 0; most-- {
		m.step()
	}
	if m.event.Kind == 0 {
		return api.Event{Kind: api.EventPause}
	}
	return m.event
}

func (m *model) Reply(r api.Reply) api.Errno {
	if m.event.Kind != api.EventAsk {
		return api.ErrMachine
	}
	if r.Gas > m.event.Ask.Gas {
		return api.ErrRange
	}
	creation := m.event.Ask.Op == 0xf0 || m.event.Ask.Op == 0xf5
	answer := new(big.Int)
	if r.OK {
		answer = big.NewInt(1)
	}
	m.gas += r.Gas
	m.returned = r.Out
	if creation && r.OK {
		m.returned = nil
		answer = new(big.Int).SetBytes(r.Made[:])
	}
	if !creation {
		for i, b := range r.Out {
			if m.from+i < m.to {
				m.memory[m.from+i] = b
			}
		}
	}
	m.stack = append(m.stack, answer)
	m.event = api.Event{}
	return api.OK
}

func (m *model) Stack() []api.Word {
	var l []api.Word
	for _, x := range m.stack {
		l = append(l, wordOf(x))
	}
	return l
}

func (m *model) Memory() []byte   { return m.memory }
func (m *model) Returned() []byte { return m.returned }
func (m *model) Gas() uint64      { return m.gas }
func (m *model) Place() int       { return min(m.place, len(m.f.Code)) }
func (m *model) Steps() int       { return m.steps }

func (m *model) step() {
	m.steps++
	before := m.moment.copied()
	defer func() {
		if x := recover(); x != nil {
			m.moment, m.gas = before, 0
			m.event = api.Event{Kind: api.EventFault, Err: x.(api.Errno)}
		}
	}()
	op := byte(0)
	if m.place < len(m.f.Code) {
		op = m.f.Code[m.place]
	}
	o, is := gas.Op(op)
	fail(!is, api.ErrOpcode)
	fail(len(m.stack) < o.Pops, api.ErrUnder)
	fail(len(m.stack)-o.Pops+o.Pushes > 1024, api.ErrOver)
	words := make([]*big.Int, o.Pops)
	for i := range words {
		words[i] = m.stack[len(m.stack)-1-i]
	}
	fail(m.f.Static && (slices.Contains([]byte{0x55, 0x5d, 0xa0, 0xa1, 0xa2, 0xa3, 0xa4, 0xf0, 0xf5, 0xff}, op) ||
		op == 0xf1 && words[2].Sign() != 0), api.ErrStatic)
	m.stack = m.stack[:len(m.stack)-o.Pops]
	m.pay(o.Gas)
	at := m.place
	m.place += 1 + o.Data
	for _, x := range m.perform(op, at, o, words) {
		m.stack = append(m.stack, new(big.Int).Mod(x, two(256)))
	}
}

func fail(is bool, e api.Errno) {
	if is {
		panic(e)
	}
}

func (m *model) pay(cost uint64) {
	fail(cost > m.gas, api.ErrGas)
	m.gas -= cost
}

func (m *model) must(cost uint64, e api.Errno) {
	fail(e != api.OK, e)
	m.pay(cost)
}

// mem grows the memory, and tells where the bytes lie in it.
func (m *model) mem(x, n *big.Int) (int, int) {
	if n.Sign() == 0 {
		return 0, 0
	}
	end := new(big.Int).Add(x, n)
	fail(end.Cmp(big.NewInt(8388608)) > 0, api.ErrGas)
	words := (end.Uint64() + 31) / 32
	if had := uint64(len(m.memory)) / 32; words > had {
		m.pay(3*words + words*words/512 - 3*had - had*had/512)
		m.memory = append(m.memory, make([]byte, 32*(words-had))...)
	}
	return int(x.Uint64()), int(end.Uint64())
}

// lay puts bytes of b from a place on, and 0 beyond its end, into the memory.
func (m *model) lay(from, to int, b []byte, at *big.Int) {
	for i := from; i < to; i++ {
		m.memory[i] = byteAt(b, new(big.Int).Add(at, big.NewInt(int64(i-from))))
	}
}

func byteAt(b []byte, at *big.Int) byte {
	if at.Cmp(big.NewInt(int64(len(b)))) >= 0 {
		return 0
	}
	return b[at.Int64()]
}

func two(n uint) *big.Int { return new(big.Int).Lsh(big.NewInt(1), n) }

func small(n int) *big.Int { return big.NewInt(int64(n)) }

func long(n uint64) *big.Int { return new(big.Int).SetUint64(n) }

func hashed(h api.Hash) *big.Int { return new(big.Int).SetBytes(h[:]) }

func addressed(a api.Address) *big.Int { return new(big.Int).SetBytes(a[:]) }

func addressOf(x *big.Int) api.Address {
	b := new(big.Int).Mod(x, two(160)).FillBytes(make([]byte, 20))
	return api.Address(b)
}

func truth(is bool) *big.Int {
	if is {
		return small(1)
	}
	return small(0)
}

// one is what an instruction puts on the stack: one word.
func one(x *big.Int) []*big.Int { return []*big.Int{x} }

// perform does an instruction, and tells what it puts on the stack, the top last.
func (m *model) perform(op byte, at int, o api.OpInfo, l []*big.Int) []*big.Int {
	switch {
	case op == 0x00:
		m.event = api.Event{Kind: api.EventStop}
	case op <= 0x1d:
		if op == 0x0a {
			m.pay(50 * uint64((l[1].BitLen()+7)/8))
		}
		return one(reckoned(op, append(l, nil, nil)))
	case op == 0x20 || op >= 0x50 && op <= 0x5f:
		return m.performOwn(op, at, l)
	case op <= 0x3f:
		return m.performFrame(op, l)
	case op <= 0x4a:
		return one(m.ofBlock(op, l))
	case op <= 0x7f:
		x := new(big.Int)
		for i := range o.Data {
			x.Lsh(x, 8)
			x.Or(x, small(int(byteAt(m.f.Code, small(at+1+i)))))
		}
		return one(x)
	case op <= 0x8f:
		slices.Reverse(l)
		return append(l, l[0])
	case op <= 0x9f:
		l[0], l[len(l)-1] = l[len(l)-1], l[0]
		slices.Reverse(l)
		return l
	default:
		m.performLast(op, l)
	}
	return nil
}

func signed(x *big.Int) *big.Int {
	if x.BitLen() == 256 {
		return new(big.Int).Sub(x, two(256))
	}
	return x
}

// reckoned tells what chapter 2's opcodes come to.
func reckoned(op byte, l []*big.Int) *big.Int {
	a, b, c := l[0], l[1], l[2]
	z := new(big.Int)
	switch op {
	case 0x01:
		return z.Add(a, b)
	case 0x02:
		return z.Mul(a, b)
	case 0x03:
		return z.Sub(a, b)
	case 0x04, 0x05, 0x06, 0x07:
		if b.Sign() == 0 {
			return z
		}
		if op == 0x05 || op == 0x07 {
			a, b = signed(a), signed(b)
		}
		if op <= 0x05 {
			return z.Quo(a, b)
		}
		return z.Rem(a, b)
	case 0x08, 0x09:
		if c.Sign() == 0 {
			return z
		}
		if op == 0x08 {
			return z.Mod(z.Add(a, b), c)
		}
		return z.Mod(z.Mul(a, b), c)
	case 0x0a:
		return z.Exp(a, b, two(256))
	case 0x0b:
		if a.Cmp(small(31)) >= 0 {
			return b
		}
		n := uint(8 * (a.Int64() + 1))
		z.Mod(b, two(n))
		if z.Cmp(two(n-1)) >= 0 {
			z.Sub(z, two(n))
		}
		return z
	case 0x10:
		return truth(a.Cmp(b) < 0)
	case 0x11:
		return truth(a.Cmp(b) > 0)
	case 0x12:
		return truth(signed(a).Cmp(signed(b)) < 0)
	case 0x13:
		return truth(signed(a).Cmp(signed(b)) > 0)
	case 0x14:
		return truth(a.Cmp(b) == 0)
	case 0x15:
		return truth(a.Sign() == 0)
	case 0x16:
		return z.And(a, b)
	case 0x17:
		return z.Or(a, b)
	case 0x18:
		return z.Xor(a, b)
	case 0x19:
		return z.Not(a)
	case 0x1a:
		if a.Cmp(small(32)) >= 0 {
			return z
		}
		return z.And(z.Rsh(b, uint(8*(31-a.Int64()))), small(255))
	}
	n := uint(256)
	if a.Cmp(small(256)) < 0 {
		n = uint(a.Int64())
	}
	switch op {
	case 0x1b:
		return z.Lsh(b, n)
	case 0x1c:
		return z.Rsh(b, n)
	}
	return z.Rsh(signed(b), n)
}

// performFrame does ADDRESS to EXTCODEHASH.
func (m *model) performFrame(op byte, l []*big.Int) []*big.Int {
	if op == 0x31 || op == 0x3b || op == 0x3c || op == 0x3f {
		return m.performAccount(op, l)
	}
	switch op {
	case 0x30:
		return one(addressed(m.f.Self))
	case 0x32:
		return one(addressed(m.e.Origin))
	case 0x33:
		return one(addressed(m.f.Caller))
	case 0x34:
		return one(bigOf(m.f.Value))
	case 0x35:
		x := new(big.Int)
		for i := range 32 {
			x.Lsh(x, 8)
			x.Or(x, small(int(byteAt(m.f.Input, new(big.Int).Add(l[0], small(i))))))
		}
		return one(x)
	case 0x36:
		return one(small(len(m.f.Input)))
	case 0x38:
		return one(small(len(m.f.Code)))
	case 0x3a:
		return one(bigOf(m.e.Price))
	case 0x3d:
		return one(small(len(m.returned)))
	}
	from, to := m.mem(l[0], l[2])
	m.must(gas.Copy(wordOf(l[2])))
	switch op {
	case 0x37:
		m.lay(from, to, m.f.Input, l[1])
	case 0x39:
		m.lay(from, to, m.f.Code, l[1])
	case 0x3e:
		fail(new(big.Int).Add(l[1], l[2]).Cmp(small(len(m.returned))) > 0, api.ErrData)
		m.lay(from, to, m.returned, l[1])
	}
	return nil
}

// performAccount does BALANCE, EXTCODESIZE, EXTCODECOPY and EXTCODEHASH.
func (m *model) performAccount(op byte, l []*big.Int) []*big.Int {
	a := addressOf(l[0])
	m.pay(gas.Account(m.s.Warm(a)))
	switch op {
	case 0x31:
		return one(bigOf(m.s.Balance(a)))
	case 0x3b:
		return one(small(len(m.s.Code(a))))
	case 0x3f:
		if m.s.Nonce(a) == 0 && m.s.Balance(a) == (api.Word{}) && len(m.s.Code(a)) == 0 {
			return one(small(0))
		}
		return one(hashed(digest.Keccak(m.s.Code(a))))
	}
	from, to := m.mem(l[1], l[3])
	m.must(gas.Copy(wordOf(l[3])))
	m.lay(from, to, m.s.Code(a), l[2])
	return nil
}

// ofBlock tells what BLOCKHASH to BLOBBASEFEE come to.
func (m *model) ofBlock(op byte, l []*big.Int) *big.Int {
	switch op {
	case 0x40:
		back := new(big.Int).Sub(long(m.e.Number), l[0])
		if back.Sign() <= 0 || back.Cmp(small(256)) > 0 || back.Cmp(small(len(m.e.Hashes))) > 0 {
			return small(0)
		}
		return hashed(m.e.Hashes[back.Int64()-1])
	case 0x41:
		return addressed(m.e.Coinbase)
	case 0x42:
		return long(m.e.Time)
	case 0x43:
		return long(m.e.Number)
	case 0x44:
		return hashed(m.e.Random)
	case 0x45:
		return long(m.e.Limit)
	case 0x46:
		return long(m.e.Chain)
	case 0x47:
		return bigOf(m.s.Balance(m.f.Self))
	case 0x48:
		return bigOf(m.e.BaseFee)
	case 0x49:
		if l[0].Cmp(small(len(m.e.Blobs))) >= 0 {
			return small(0)
		}
		return hashed(m.e.Blobs[l[0].Int64()])
	}
	return bigOf(m.e.BlobFee)
}

// performOwn does KECCAK256 and POP to PUSH0.
func (m *model) performOwn(op byte, at int, l []*big.Int) []*big.Int {
	switch op {
	case 0x20:
		from, to := m.mem(l[0], l[1])
		m.must(gas.Keccak(wordOf(l[1])))
		return one(hashed(digest.Keccak(m.memory[from:to])))
	case 0x51, 0x52:
		from, to := m.mem(l[0], small(32))
		if op == 0x51 {
			return one(new(big.Int).SetBytes(m.memory[from:to]))
		}
		l[1].FillBytes(m.memory[from:to])
	case 0x53:
		from, _ := m.mem(l[0], small(1))
		m.memory[from] = byte(new(big.Int).And(l[1], small(255)).Int64())
	case 0x54:
		m.pay(gas.Slot(m.s.WarmSlot(m.f.Self, wordOf(l[0]))))
		return one(bigOf(m.s.Slot(m.f.Self, wordOf(l[0]))))
	case 0x55:
		fail(m.gas <= 2300, api.ErrGas)
		key, next := wordOf(l[0]), wordOf(l[1])
		cost, refund := gas.Store(m.s.First(m.f.Self, key), m.s.Slot(m.f.Self, key), next, m.s.WarmSlot(m.f.Self, key))
		m.pay(cost)
		m.s.SetSlot(m.f.Self, key, next)
		m.s.AddRefund(refund)
	case 0x56, 0x57:
		if op == 0x57 && l[1].Sign() == 0 {
			return nil
		}
		fail(!l[0].IsInt64() || !gas.Dest(m.f.Code, int(l[0].Int64())), api.ErrJump)
		m.place = int(l[0].Int64())
	case 0x58:
		return one(small(at))
	case 0x59:
		return one(small(len(m.memory)))
	case 0x5a:
		return one(long(m.gas))
	case 0x5c:
		return one(bigOf(m.s.Passing(m.f.Self, wordOf(l[0]))))
	case 0x5d:
		m.s.SetPassing(m.f.Self, wordOf(l[0]), wordOf(l[1]))
	case 0x5e:
		to, _ := m.mem(l[0], l[2])
		from, end := m.mem(l[1], l[2])
		m.must(gas.Copy(wordOf(l[2])))
		copy(m.memory[to:], bytes.Clone(m.memory[from:end]))
	case 0x5f:
		return one(small(0))
	}
	return nil
}

// performLast does LOG0 to SELFDESTRUCT.
func (m *model) performLast(op byte, l []*big.Int) {
	switch op {
	case 0xf3, 0xfd:
		from, to := m.mem(l[0], l[1])
		kind := api.EventReturn
		if op == 0xfd {
			kind = api.EventRevert
		}
		m.event = api.Event{Kind: kind, Out: bytes.Clone(m.memory[from:to])}
	case 0xff:
		m.performDestroy(addressOf(l[0]))
	case 0xf0, 0xf5:
		from, to := m.mem(l[1], l[2])
		fail(to-from > 49152, api.ErrGas)
		m.pay(gas.Init(uint64(to - from)))
		ask := api.Ask{Op: op, Value: wordOf(l[0]), Input: bytes.Clone(m.memory[from:to])}
		if op == 0xf5 {
			m.must(gas.Keccak(wordOf(l[2])))
			ask.Salt = wordOf(l[3])
		}
		ask.Gas = m.gas - m.gas/64
		m.pay(ask.Gas)
		m.event = api.Event{Kind: api.EventAsk, Ask: ask}
	case 0xf1, 0xf2, 0xf4, 0xfa:
		m.performCall(op, l)
	default:
		from, to := m.mem(l[0], l[1])
		m.must(gas.Log(int(op-0xa0), wordOf(l[1])))
		log := api.Log{Address: m.f.Self, Data: m.memory[from:to]}
		for _, x := range l[2:] {
			log.Topics = append(log.Topics, api.Hash(x.FillBytes(make([]byte, 32))))
		}
		m.s.Tell(log)
	}
}

func (m *model) performDestroy(to api.Address) {
	balance := m.s.Balance(m.f.Self)
	if !m.s.Warm(to) {
		m.pay(2600)
	}
	if balance != (api.Word{}) && m.s.Empty(to) {
		m.pay(25000)
	}
	switch {
	case to != m.f.Self && m.s.Add(to, balance) == api.OK, to == m.f.Self && m.s.Fresh(to):
		m.s.Sub(m.f.Self, balance)
	}
	m.s.Destroy(m.f.Self)
	m.event = api.Event{Kind: api.EventStop}
}

func (m *model) performCall(op byte, l []*big.Int) {
	ask := api.Ask{Op: op, To: addressOf(l[1])}
	if op == 0xf1 || op == 0xf2 {
		ask.Value = wordOf(l[2])
		l = slices.Delete(l, 2, 3)
	}
	from, to := m.mem(l[2], l[3])
	m.from, m.to = m.mem(l[4], l[5])
	paid := ask.Value != (api.Word{})
	if op == 0xf1 || op == 0xf2 {
		m.pay(gas.Call(m.s.Warm(ask.To), paid, op == 0xf1 && m.s.Empty(ask.To)))
	} else {
		m.pay(gas.Account(m.s.Warm(ask.To)))
	}
	ask.Gas = gas.Forward(m.gas, wordOf(l[0]))
	m.pay(ask.Gas)
	if paid {
		ask.Gas += 2300
	}
	ask.Input = bytes.Clone(m.memory[from:to])
	m.event = api.Event{Kind: api.EventAsk, Ask: ask}
}
