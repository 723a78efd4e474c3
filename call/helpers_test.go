package call_test

import (
	"bytes"
	"fmt"
	"math/big"
	"slices"
	"strings"
	"testing"

	"cairn/api"
	"cairn/call"
	"cairn/machine"
	"cairn/state"
	"cairn/word"
)

// The accounts that tests use: who sends messages, one that holds the code in question, another one with code, one with a balance alone,
// one that has all there is, one that is empty, one that isn't there, and the contract that answers what it is given.
var (
	sender = api.Address{0: 0xf0, 10: 0x0f, 19: 0x20}
	target = api.Address{0: 0xaa, 10: 0xbb, 19: 0x21}
	helper = api.Address{0: 0xcc, 10: 0xdd, 19: 0x22}
	bare   = api.Address{0: 0x01, 19: 0x23}
	full   = api.Address{0: 0x02, 19: 0x24}
	empty  = api.Address{0: 0x03, 19: 0x25}
	absent = api.Address{0: 0x04, 19: 0x26}
	echo   = api.Address{19: 4}
)

// firstNonce is what sender has, and had is its balance.
const (
	firstNonce = 5
	had        = 1000
)

// noCode are accounts without code.
func noCode() []api.Account {
	return []api.Account{
		{Address: sender, Nonce: firstNonce, Balance: w(had)}, {Address: bare, Balance: w(7)}, {Address: full, Balance: most()}, {Address: empty},
	}
}

// coded is an account that has code, a balance and something in its first slot.
func coded(a api.Address, code ...[]byte) api.Account {
	return api.Account{Address: a, Nonce: 1, Balance: w(100), Code: slices.Concat(code...), Slots: []api.Slot{{Key: w(0), Value: w(9)}}}
}

// over is a state over noCode and more accounts, in a transaction.
func over(more ...api.Account) *state.State { return begun(append(noCode(), more...)...) }

// begun is a state over these accounts alone, in a transaction.
func begun(l ...api.Account) *state.State {
	b, e := state.Alloc(l)
	if e != api.OK {
		panic(e)
	}
	s := state.New(b)
	s.Begin()
	return s
}

func newEnv() api.Env {
	return api.Env{
		Origin: api.Address{1, 2, 19: 3}, Price: api.Word{11, 12}, Coinbase: api.Address{4, 5, 19: 6}, Time: 13, Number: 1000,
		Random: api.Hash{7, 31: 8}, Limit: 14, Chain: 15, BaseFee: api.Word{16, 17}, BlobFee: api.Word{20, 0, 0, 21},
		Blobs: []api.Hash{{1, 31: 1}, {1, 31: 2}}, Hashes: []api.Hash{{9}, {8}, {7}},
	}
}

// enough is gas for all that tests of ordinary things do.
const enough = 2000000

// to is a message to target.
func to(k api.MsgKind) api.Msg {
	return api.Msg{Kind: k, From: sender, To: target, Caller: bare, Value: w(3), Input: []byte{1, 2, 3}, Gas: enough}
}

// creating is a message that runs init code.
func creating(init ...[]byte) api.Msg {
	return api.Msg{Kind: api.MsgCreate, From: sender, Value: w(3), Input: slices.Concat(init...), Gas: enough}
}

// creating2 is one that does so at an address by a salt.
func creating2(init ...[]byte) api.Msg {
	m := creating(init...)
	m.Kind, m.Salt = api.MsgCreate2, api.Word{77, 0, 0, 78}
	return m
}

// made is where a message to create from an account of that nonce does so.
func made(m api.Msg, nonce uint64) api.Address {
	if m.Kind == api.MsgCreate2 {
		return call.Made2(m.From, m.Salt, m.Input)
	}
	return call.Made(m.From, nonce)
}

func calls() []api.MsgKind {
	return []api.MsgKind{api.MsgCall, api.MsgCode, api.MsgDelegate, api.MsgStatic}
}

func creations() []api.MsgKind { return []api.MsgKind{api.MsgCreate, api.MsgCreate2} }

func kinds() []api.MsgKind { return append(calls(), creations()...) }

func do(s *state.State, m api.Msg) api.Result { return call.Do(s, newEnv(), m) }

func w(n uint64) api.Word { return word.Of(n) }

// most is the greatest word.
func most() api.Word { return api.Word{1<<64 - 1, 1<<64 - 1, 1<<64 - 1, 1<<64 - 1} }

// of is an address as a word.
func of(a api.Address) api.Word { return machine.Word(a) }

// bigOf takes a word to a whole number.
func bigOf(x api.Word) *big.Int {
	b := word.Bytes(x)
	return new(big.Int).SetBytes(b[:])
}

// push is a PUSH32 of a word.
func push(x api.Word) []byte {
	b := word.Bytes(x)
	return append([]byte{0x7f}, b[:]...)
}

// with is an opcode behind pushes of the words that it takes, the top one first.
func with(op byte, words ...api.Word) []byte {
	var b []byte
	for _, x := range slices.Backward(words) {
		b = append(b, push(x)...)
	}
	return append(b, op)
}

// raw are opcodes.
func raw(ops ...byte) []byte { return ops }

// telling is code that returns the words that pieces of code leave on the stack.
func telling(pieces ...[]byte) []byte {
	var b []byte
	for i, p := range pieces {
		b = append(append(b, p...), with(0x52, w(uint64(32*i)))...)
	}
	return append(b, with(0xf3, w(0), w(uint64(32*len(pieces))))...)
}

// laid is code that lays bytes to the memory's beginning.
func laid(b []byte) []byte {
	var code []byte
	for at := 0; at < len(b); at += 32 {
		part := append(slices.Clone(b[at:min(at+32, len(b))]), make([]byte, 32)...)
		x, _ := word.Read(part[:32])
		code = append(code, with(0x52, w(uint64(at)), x)...)
	}
	return code
}

// giving is init code that makes an account of that code.
func giving(code ...[]byte) []byte {
	b := slices.Concat(code...)
	return append(laid(b), with(0xf3, w(0), w(uint64(len(b))))...)
}

// calling is code that calls an account by an opcode, with gas and a value, the first bytes of the memory as input, and takes no answer.
func calling(op byte, a api.Address, value, gas uint64, input int) []byte {
	if op == 0xf4 || op == 0xfa {
		return with(op, w(gas), of(a), w(0), w(uint64(input)), w(0), w(0))
	}
	return with(op, w(gas), of(a), w(value), w(0), w(uint64(input)), w(0), w(0))
}

// making is code that creates by an opcode, with the bytes as init code.
func making(op byte, value uint64, init ...[]byte) []byte {
	b := slices.Concat(init...)
	long := w(uint64(len(b)))
	if op == 0xf5 {
		return append(laid(b), with(op, w(value), w(0), long, api.Word{77, 0, 0, 78})...)
	}
	return append(laid(b), with(op, w(value), w(0), long)...)
}

// storing is code that lays a value to a slot; stored is one that takes it there from the stack.
func storing(key, value uint64) []byte { return with(0x55, w(key), w(value)) }

func stored(key uint64) []byte { return with(0x55, w(key)) }

// The ends that code can take.
func stop() []byte { return raw(0) }

func fault() []byte { return raw(0xfe) }

func revert(long uint64) []byte { return with(0xfd, w(0), w(long)) }

func returned(long uint64) []byte { return with(0xf3, w(0), w(long)) }

func destroy(heir api.Address) []byte { return with(0xff, of(heir)) }

// addresses are those that are asked for, beside some more.
func addresses(more ...api.Address) []api.Address {
	return append([]api.Address{
		sender, target, helper, bare, full, empty, absent, echo, {}, {19: 1}, {19: 10}, call.Made(sender, firstNonce), call.Made(sender, firstNonce+1),
		call.Made(target, 1), call.Made(target, 2),
	}, more...)
}

// stateText is all that can be asked of a state without changing it.
func stateText(s *state.State, more ...api.Address) string {
	var t strings.Builder
	for _, a := range addresses(more...) {
		fmt.Fprintf(&t, "%x: exists %v nonce %d balance %s code %x fresh %v", a, s.Exists(a), s.Nonce(a), word.Dec(s.Balance(a)), s.Code(a), s.Fresh(a))
		for k := range uint64(4) {
			fmt.Fprintf(&t, " %s/%s/%s", word.Dec(s.Slot(a, w(k))), word.Dec(s.First(a, w(k))), word.Dec(s.Passing(a, w(k))))
		}
		t.WriteString("\n")
	}
	for _, l := range s.Logs() {
		fmt.Fprintf(&t, "log %x %x %x\n", l.Address, l.Topics, l.Data)
	}
	fmt.Fprintf(&t, "refund %d\n", s.Refund())
	for _, c := range s.Changes() {
		fmt.Fprintf(&t, "change %x %v %d %s %x %v %v\n", c.Address, c.Gone, c.Nonce, word.Dec(c.Balance), c.Code, c.Wiped, c.Slots)
	}
	return t.String()
}

// endText is all that can be asked of a state, and what becomes of it at the transaction's end, by which one can tell what was touched.
func endText(s *state.State, more ...api.Address) string {
	var t strings.Builder
	t.WriteString(stateText(s, more...))
	for _, a := range addresses(more...) {
		fmt.Fprintf(&t, "%x: warm %v", a, s.Warm(a))
		for k := range uint64(4) {
			fmt.Fprintf(&t, " %v", s.WarmSlot(a, w(k)))
		}
		t.WriteString("\n")
	}
	s.End()
	return t.String() + "behind the end\n" + stateText(s, more...)
}

func resultText(r api.Result) string {
	return fmt.Sprintf("error %d gas %d out %x made %x steps %d deepest %d", r.Err, r.Gas, r.Out, r.Made, r.Steps, r.Deepest)
}

func wantText(t *testing.T, what, got, want string) {
	t.Helper()
	if got != want {
		t.Errorf("%s: got\n%s\nwant\n%s", what, got, want)
	}
}

func wantResult(t *testing.T, what string, got, want api.Result) {
	t.Helper()
	wantText(t, what, resultText(got), resultText(want))
}

// wantErr holds what came of a message against the error that it should have.
func wantErr(t *testing.T, what string, got api.Result, want api.Errno) {
	t.Helper()
	if got.Err != want {
		t.Errorf("%s: got %s, want error %d", what, resultText(got), want)
	}
}

// wantSame holds two states against one another, at their transactions' ends.
func wantSame(t *testing.T, what string, got, want *state.State, more ...api.Address) {
	t.Helper()
	wantText(t, what+": the state", endText(got, more...), endText(want, more...))
}

func wantNumber(t *testing.T, what string, got, want uint64) {
	t.Helper()
	if got != want {
		t.Errorf("%s: got %d, want %d", what, got, want)
	}
}

func wantWord(t *testing.T, what string, got, want api.Word) {
	t.Helper()
	if got != want {
		t.Errorf("%s: got %s, want %s", what, word.Hex(got), word.Hex(want))
	}
}

func wantBytes(t *testing.T, what string, got, want []byte) {
	t.Helper()
	if !bytes.Equal(got, want) {
		t.Errorf("%s: got %x, want %x", what, got, want)
	}
}

func wantTrue(t *testing.T, what string, is bool) {
	t.Helper()
	if !is {
		t.Errorf("%s: it is not so", what)
	}
}

// wantWords holds what was returned against words.
func wantWords(t *testing.T, what string, r api.Result, want ...api.Word) {
	t.Helper()
	var b []byte
	for _, x := range want {
		one := word.Bytes(x)
		b = append(b, one[:]...)
	}
	wantErr(t, what, r, api.OK)
	wantBytes(t, what, r.Out, b)
}

// spoil writes over all that a list has, and what lies behind its length.
func spoil[T any](l []T, with T) {
	l = l[:cap(l)]
	for i := range l {
		l[i] = with
	}
}

// roomy is a list with more behind its length.
func roomy[T any](l []T, more ...T) []T {
	whole := append(append(make([]T, 0, len(l)+len(more)), l...), more...)
	return whole[:len(l)]
}

// row is a row of numbers that is the same at every run.
type row uint64

func (r *row) below(n int) int {
	*r = *r*6364136223846793005 + 1442695040888963407
	return int(uint64(*r) >> 33 % uint64(n))
}

func (r *row) is(one int) bool { return r.below(one) == 0 }

// pick is one of these.
func pick[T any](r *row, l ...T) T { return l[r.below(len(l))] }

// wordOf is the word of at most 32 bytes.
func wordOf(b []byte) api.Word {
	x, _ := word.Read(b)
	return x
}
