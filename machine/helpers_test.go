package machine_test

import (
	"bytes"
	"fmt"
	"math/big"
	"slices"
	"strings"
	"testing"

	"cairn/api"
	"cairn/machine"
	"cairn/state"
	"cairn/word"
)

// The accounts that tests use: one that runs code and has some of everything, one that calls it, one with code, one with a balance alone,
// one that is full, one that is empty, one that isn't there, and one that differs from self in the first byte alone.
var (
	self   = api.Address{0: 0xaa, 10: 0xbb, 19: 0x10}
	caller = api.Address{0: 0xcc, 19: 0x11}
	coded  = api.Address{19: 0x12}
	bare   = api.Address{19: 0x13}
	full   = api.Address{19: 0x14}
	empty  = api.Address{19: 0x15}
	absent = api.Address{19: 0x16}
	twin   = api.Address{0: 0xab, 10: 0xbb, 19: 0x10}
)

func addresses() []api.Address {
	return []api.Address{self, caller, coded, bare, full, empty, absent, twin, {}, {19: 1}}
}

func keys() []api.Word { return []api.Word{{}, {1}, {2}, {3}, {0, 1}, {1, 0, 0, 1 << 63}, most()} }

func codeOfCoded() []byte {
	b := make([]byte, 40)
	for i := range b {
		b[i] = byte(0xc0 + i)
	}
	return b
}

func some() []api.Account {
	return []api.Account{
		{Address: self, Nonce: 1, Balance: w(1000), Code: []byte("self's"), Slots: []api.Slot{{Key: w(1), Value: w(5)}, {Key: w(2), Value: most()}}},
		{Address: coded, Nonce: 3, Balance: w(77), Code: codeOfCoded()},
		{Address: bare, Balance: api.Word{9, 8}},
		{Address: full, Balance: most()},
		{Address: empty},
		{Address: twin, Nonce: 2, Balance: w(7), Slots: []api.Slot{{Key: w(1), Value: w(6)}}},
	}
}

// newState is a state over some accounts, in a transaction.
func newState() *state.State {
	b, e := state.Alloc(some())
	if e != api.OK {
		panic(e)
	}
	s := state.New(b)
	s.Begin()
	return s
}

// newEnv is an environment of which every part is told apart from every other one.
func newEnv() api.Env {
	return api.Env{
		Origin: api.Address{1, 2, 19: 3}, Price: api.Word{11, 12}, Coinbase: api.Address{4, 5, 19: 6}, Time: 1<<63 + 13, Number: 1000,
		Random: api.Hash{7, 31: 8}, Limit: 1<<63 + 14, Chain: 1<<63 + 15, BaseFee: api.Word{16, 17, 18, 19}, BlobFee: api.Word{20, 0, 0, 21},
		Blobs: []api.Hash{{1, 31: 1}, {1, 31: 2}}, Hashes: hashes(300),
	}
}

// hashes are n that are unlike.
func hashes(n int) []api.Hash {
	l := make([]api.Hash, n)
	for i := range l {
		l[i] = api.Hash{0: 0x99, 30: byte(i >> 8), 31: byte(i)}
	}
	return l
}

func newFrame(code ...[]byte) api.Frame {
	return api.Frame{Self: self, Caller: caller, Value: api.Word{31, 32, 33, 34}, Input: input(50), Code: slices.Concat(code...), Gas: api.MaxGas}
}

// input are n bytes, none of them 0.
func input(n int) []byte {
	b := make([]byte, n)
	for i := range b {
		b[i] = byte(1 + i%250)
	}
	return b
}

// plenty is more instructions than any code here does; a machine that goes on for ever is to fail, not to keep the tests waiting.
const plenty = 1 << 18

func w(n uint64) api.Word { return word.Of(n) }

// most is the greatest word.
func most() api.Word { return api.Word{1<<64 - 1, 1<<64 - 1, 1<<64 - 1, 1<<64 - 1} }

// of is an address as a word, spoilt is one with bytes above it that count for nothing.
func of(a api.Address) api.Word { return wordOf(new(big.Int).SetBytes(a[:])) }

func spoilt(a api.Address) api.Word {
	x := of(a)
	x[3], x[2] = 0xdeadbeefdeadbeef, x[2]|0xfeedfeed00000000
	return x
}

// ofBytes is the word of at most 32 bytes.
func ofBytes(b []byte) api.Word { return wordOf(new(big.Int).SetBytes(b)) }

// bigOf and wordOf take words to whole numbers and back.
func bigOf(x api.Word) *big.Int {
	n := new(big.Int)
	for i := len(x) - 1; i >= 0; i-- {
		n.Lsh(n, 64)
		n.Or(n, new(big.Int).SetUint64(x[i]))
	}
	return n
}

func wordOf(n *big.Int) api.Word {
	var x api.Word
	for i := range x {
		x[i] = new(big.Int).Rsh(n, uint(64*i)).Uint64()
	}
	return x
}

// push is a PUSH32 of a word, which costs 3.
func push(x api.Word) []byte {
	b := bigOf(x).FillBytes(make([]byte, 32))
	return append([]byte{0x7f}, b...)
}

// with is an opcode behind pushes of the words that it takes, a first.
func with(op byte, words ...api.Word) []byte {
	var b []byte
	for _, x := range slices.Backward(words) {
		b = append(b, push(x)...)
	}
	return append(b, op)
}

// fill is code that fills the first words of the memory with bytes none of which is 0: three instructions a word.
func fill(words int) []byte {
	var b []byte
	for i := range words {
		b = append(b, with(0x52, w(uint64(32*i)), ofBytes(input(250)[32*i:32*i+32]))...)
	}
	return b
}

// machining is all that can be asked of a machine: the package's, or the model.
type machining interface {
	Run(most int) api.Event
	Reply(r api.Reply) api.Errno
	Stack() []api.Word
	Memory() []byte
	Returned() []byte
	Gas() uint64
	Place() int
	Steps() int
}

// start is a machine ahead of its first instruction.
func start(t *testing.T, s *state.State, e api.Env, f api.Frame) *machine.Machine {
	t.Helper()
	m, err := machine.New(s, e, f)
	if err != api.OK {
		t.Fatalf("New: %d", err)
	}
	return m
}

// ran is a machine that has run code over some accounts till it stands still.
func ran(t *testing.T, code ...[]byte) (*machine.Machine, api.Event) {
	t.Helper()
	m := start(t, newState(), newEnv(), newFrame(code...))
	return m, ended(t, m)
}

// ended is the event at which a machine stands still.
func ended(t *testing.T, m machining) api.Event {
	t.Helper()
	v := m.Run(plenty)
	if v.Kind == api.EventPause {
		t.Fatal("it goes on for ever")
	}
	return v
}

// goOn ends a test that has failed already, where what comes then might never end.
func goOn(t *testing.T) {
	t.Helper()
	if t.Failed() {
		t.FailNow()
	}
}

// told is what a machine tells of itself.
func told(m machining) string {
	var t strings.Builder
	t.WriteString(body(m))
	fmt.Fprintf(&t, "gas %d\nreturned %x\nsteps %d\n", m.Gas(), m.Returned(), m.Steps())
	return t.String()
}

// body is what a fault leaves as it was.
func body(m machining) string {
	var t strings.Builder
	for _, x := range m.Stack() {
		fmt.Fprintf(&t, "%s ", word.Hex(x))
	}
	fmt.Fprintf(&t, "stack\n%x memory\nplace %d\n", m.Memory(), m.Place())
	return t.String()
}

func eventText(v api.Event) string {
	return fmt.Sprintf("kind %d out %x error %d ask %x gas %d to %x value %s input %x salt %s",
		v.Kind, v.Out, v.Err, v.Ask.Op, v.Ask.Gas, v.Ask.To, word.Hex(v.Ask.Value), v.Ask.Input, word.Hex(v.Ask.Salt))
}

// stateText is all that can be asked of a state without changing it.
func stateText(s *state.State) string {
	var t strings.Builder
	for _, a := range addresses() {
		fmt.Fprintf(&t, "%x: exists %v nonce %d balance %s code %x fresh %v", a, s.Exists(a), s.Nonce(a), word.Dec(s.Balance(a)), s.Code(a), s.Fresh(a))
		for _, k := range keys() {
			fmt.Fprintf(&t, " %s/%s/%s", word.Hex(s.Slot(a, k)), word.Hex(s.First(a, k)), word.Hex(s.Passing(a, k)))
		}
		t.WriteString("\n")
	}
	for _, l := range s.Logs() {
		fmt.Fprintf(&t, "log %x %x %x\n", l.Address, l.Topics, l.Data)
	}
	fmt.Fprintf(&t, "refund %d\n", s.Refund())
	for _, c := range s.Changes() {
		fmt.Fprintf(&t, "change %x %v %d %s %x %v %v\n", c.Address, c.Gone, c.Nonce, word.Dec(c.Balance), c.Code, c.Wiped, c.Slots)
	}
	return t.String()
}

// warmText is what is warm of a state; it is all warm then.
func warmText(s *state.State) string {
	var t strings.Builder
	for _, a := range addresses() {
		fmt.Fprintf(&t, "%x: %v", a, s.Warm(a))
		for _, k := range keys() {
			fmt.Fprintf(&t, " %v", s.WarmSlot(a, k))
		}
		t.WriteString("\n")
	}
	return t.String()
}

// endText is what becomes of a state at the transaction's end.
func endText(s *state.State) string {
	warm := warmText(s)
	s.End()
	return warm + stateText(s)
}

func wantText(t *testing.T, what, got, want string) {
	t.Helper()
	if got != want {
		t.Errorf("%s: got\n%s\nwant\n%s", what, got, want)
	}
}

func wantEvent(t *testing.T, what string, got, want api.Event) {
	t.Helper()
	wantText(t, what+": the event", eventText(got), eventText(want))
}

func wantKind(t *testing.T, what string, got api.Event, want api.EventKind) {
	t.Helper()
	if got.Kind != want {
		t.Errorf("%s: got %s, want kind %d", what, eventText(got), want)
	}
}

// wantFault holds an event against the fault, and nothing else, that it should be.
func wantFault(t *testing.T, what string, got api.Event, want api.Errno) {
	t.Helper()
	wantEvent(t, what, got, api.Event{Kind: api.EventFault, Err: want})
}

func wantErrno(t *testing.T, what string, got, want api.Errno) {
	t.Helper()
	if got != want {
		t.Errorf("%s: got error %d, want %d", what, got, want)
	}
}

func wantTrue(t *testing.T, what string, is bool) {
	t.Helper()
	if !is {
		t.Errorf("%s: it is not so", what)
	}
}

func wantNumber(t *testing.T, what string, got, want uint64) {
	t.Helper()
	if got != want {
		t.Errorf("%s: got %d, want %d", what, got, want)
	}
}

func wantBytes(t *testing.T, what string, got, want []byte) {
	t.Helper()
	if !bytes.Equal(got, want) {
		t.Errorf("%s: got %x, want %x", what, got, want)
	}
}

func wantStack(t *testing.T, what string, m machining, want ...api.Word) {
	t.Helper()
	if got := m.Stack(); !slices.Equal(got, want) {
		t.Errorf("%s: got the stack %v, want %v", what, got, want)
	}
}

// spoil writes over all that a list has, and what lies behind its length.
func spoil[T any](l []T, with T) {
	l = l[:cap(l)]
	for i := range l {
		l[i] = with
	}
}

// roomy is a list with more behind its length.
func roomy[T any](l []T, more ...T) []T {
	whole := append(append(make([]T, 0, len(l)+len(more)), l...), more...)
	return whole[:len(l)]
}

// row is a row of numbers that is the same at every run.
type row uint64

func (r *row) below(n int) int {
	*r = *r*6364136223846793005 + 1442695040888963407
	return int(uint64(*r) >> 33 % uint64(n))
}

func (r *row) is(one int) bool { return r.below(one) == 0 }

// pick is one of these.
func pick[T any](r *row, l ...T) T { return l[r.below(len(l))] }

func (r *row) bytes(n int) []byte {
	b := make([]byte, n)
	for i := range b {
		b[i] = byte(r.below(256))
	}
	return b
}

// word is a word of any count of bits, often one at which something turns.
func (r *row) word() api.Word {
	switch r.below(4) {
	case 0:
		return pick(r, edges()...)
	case 1:
		return w(uint64(r.below(300)))
	}
	return wordOf(new(big.Int).Rsh(new(big.Int).SetBytes(r.bytes(32)), uint(r.below(256))))
}

// edges are words at which something turns.
func edges() []api.Word {
	l := []api.Word{{}, {1}, {2}, {7}, {8}, {30}, {31}, {32}, {33}, {127}, {128}, {255}, {256}, {257}, most()}
	for _, n := range []uint{64, 128, 192, 255} {
		x := new(big.Int).Lsh(big.NewInt(1), n)
		l = append(l, wordOf(x), wordOf(new(big.Int).Sub(x, big.NewInt(1))), wordOf(new(big.Int).Add(x, big.NewInt(1))))
	}
	return append(l, wordOf(new(big.Int).Sub(bigOf(most()), big.NewInt(1))))
}
