package machine_test

import (
	"testing"

	"cairn/api"
	"cairn/digest"
	"cairn/state"
)

// 15.2: what frame and environment tell.
func TestWhatIsTold(t *testing.T) {
	e := newEnv()
	for op, want := range map[byte]api.Word{
		0x30: of(self), 0x32: of(e.Origin), 0x33: of(caller), 0x34: {31, 32, 33, 34}, 0x36: w(50), 0x38: w(1), 0x3a: {11, 12}, 0x3d: w(0),
		0x41: of(e.Coinbase), 0x42: w(1<<63 + 13), 0x43: w(1000), 0x44: ofBytes(e.Random[:]), 0x45: w(1<<63 + 14), 0x46: w(1<<63 + 15),
		0x47: w(1000), 0x48: {16, 17, 18, 19}, 0x4a: {20, 0, 0, 21}, 0x58: w(0), 0x59: w(0),
	} {
		wantPush(t, "told", trial{op: op}, want)
	}
	m, _ := ran(t, []byte{0x38}, make([]byte, 40))
	wantStack(t, "CODESIZE", m, w(41))
	x := trial{op: 0x47, ready: func(s *state.State) { s.Add(self, api.Word{0, 0, 7}) }}
	wantPush(t, "SELFBALANCE of now", x, api.Word{1000, 0, 7})
	m = start(t, newState(), api.Env{}, api.Frame{Code: []byte{0x32, 0x3a, 0x41, 0x42, 0x43, 0x44, 0x45, 0x46, 0x48, 0x4a, 0x30, 0x33, 0x34, 0x36, 0x47}, Gas: 1000})
	m.Run(100)
	wantStack(t, "of nothing", m, make([]api.Word, 15)...)
}

// 15.2: PC is the instruction's own place, GAS is what is left behind it.
func TestPlaceAndGas(t *testing.T) {
	m, _ := ran(t, []byte{0x58, 0x61, 1, 2, 0x58, 0x58, 0x7f}, make([]byte, 32), []byte{0x58})
	wantStack(t, "PC", m, w(0), w(258), w(4), w(5), w(0), w(39))
	f := newFrame([]byte{0x5a, 0x60, 1, 0x5a})
	f.Gas = 7
	m = start(t, newState(), newEnv(), f)
	wantEvent(t, "GAS", m.Run(100), api.Event{Kind: api.EventStop})
	wantStack(t, "GAS", m, w(5), w(1), w(0))
}

func TestBlockhash(t *testing.T) { // 15.2
	l := hashes(300)
	of := func(i int) api.Word { return ofBytes(l[i][:]) }
	for asked, want := range map[api.Word]api.Word{
		w(1000): {}, w(999): of(0), w(998): of(1), w(745): of(254), w(744): of(255), w(743): {}, w(742): {}, w(0): {}, w(1001): {}, w(1 << 63): {},
		{999, 1}: {}, {999, 0, 0, 1}: {}, most(): {},
	} {
		wantPush(t, "BLOCKHASH", trial{op: 0x40, words: []api.Word{asked}}, want)
	}
	for number, pairs := range map[uint64]map[uint64]api.Word{
		1: {0: of(0), 1: {}}, 5: {0: of(4), 4: of(0), 5: {}}, 256: {0: of(255)}, 257: {0: {}, 1: of(255)}, 1<<64 - 1: {1<<64 - 2: of(0), 1<<64 - 1: {}, 0: {}},
	} {
		for asked, want := range pairs {
			wantPush(t, "BLOCKHASH", trial{op: 0x40, number: number, words: []api.Word{w(asked)}}, want)
		}
	}
	for _, n := range []int{0, 1, 2, 255, 256} { // Hashes that are too few
		for back := range 4 {
			e := newEnv()
			e.Hashes = roomy(l[:n:n], api.Hash{9}, api.Hash{9})
			want := api.Word{}
			if back < n {
				want = of(back)
			}
			m := start(t, newState(), e, newFrame(with(0x40, w(uint64(999-back)))))
			m.Run(3)
			wantStack(t, "BLOCKHASH of few", m, want)
		}
	}
	e := newEnv()
	e.Number = 0
	m := start(t, newState(), e, newFrame(with(0x40, w(0)), with(0x40, most())))
	m.Run(10)
	wantStack(t, "BLOCKHASH ahead of the first block", m, w(0), w(0))
}

func TestBlobhash(t *testing.T) { // 15.2
	for asked, want := range map[api.Word]api.Word{
		w(0): {1, 0, 0, 1 << 56}, w(1): {2, 0, 0, 1 << 56}, w(2): {}, w(3): {}, w(1 << 63): {}, {1, 1}: {}, {0, 0, 0, 1}: {}, most(): {},
	} {
		wantPush(t, "BLOBHASH", trial{op: 0x49, words: []api.Word{asked}}, want)
	}
	e := newEnv()
	e.Blobs = roomy(e.Blobs[:1:1], api.Hash{9})
	m := start(t, newState(), e, newFrame(with(0x49, w(1))))
	m.Run(3)
	wantStack(t, "behind the list", m, w(0))
}

func TestCalldataload(t *testing.T) { // 15.2: noughts behind Input
	b := append(input(50), make([]byte, 64)...)
	for _, at := range []int{0, 1, 17, 18, 19, 31, 32, 49, 50, 51, 70} {
		wantPush(t, "CALLDATALOAD", trial{op: 0x35, words: []api.Word{w(uint64(at))}}, ofBytes(b[at:at+32]))
	}
	for _, at := range []api.Word{w(1 << 32), w(1 << 63), w(1<<64 - 1), w(1<<64 - 31), {0, 1}, {5, 0, 0, 1}, most()} {
		wantPush(t, "CALLDATALOAD far away", trial{op: 0x35, words: []api.Word{at}}, api.Word{})
	}
	f := newFrame(with(0x35, w(0)))
	f.Input = roomy([]byte{1, 2}, 9, 9)
	m := start(t, newState(), newEnv(), f)
	m.Run(3)
	wantStack(t, "what lies behind Input", m, ofBytes(append([]byte{1, 2}, make([]byte, 30)...)))
}

// asked are the opcodes that ask for an account.
func asked() []byte { return []byte{0x31, 0x3b, 0x3f} }

func TestAccounts(t *testing.T) { // 15.2
	hash := func(b []byte) api.Word {
		h := digest.Keccak(b)
		return ofBytes(h[:])
	}
	want := map[api.Address][3]api.Word{
		self:   {w(1000), w(6), hash([]byte("self's"))},
		coded:  {w(77), w(40), hash(codeOfCoded())},
		bare:   {{9, 8}, w(0), hash(nil)},
		full:   {most(), w(0), hash(nil)},
		twin:   {w(7), w(0), hash(nil)},
		empty:  {},
		absent: {},
	}
	for a, l := range want {
		for i, op := range asked() {
			wantPush(t, "an account", trial{op: op, words: []api.Word{of(a)}}, l[i])
			wantPush(t, "an account, by a word with more above", trial{op: op, words: []api.Word{spoilt(a)}}, l[i])
		}
	}
	nonce := trial{op: 0x3f, words: []api.Word{of(absent)}, ready: func(s *state.State) { s.SetNonce(absent, 1) }}
	wantPush(t, "EXTCODEHASH of one with a nonce alone", nonce, hash(nil))
	changed := trial{op: 0x3f, words: []api.Word{of(coded)}, ready: func(s *state.State) { s.SetCode(coded, []byte("new")) }}
	wantPush(t, "EXTCODEHASH of now", changed, hash([]byte("new")))
}

func TestCostOfAccounts(t *testing.T) { // 15.2
	for _, op := range asked() {
		for _, a := range []api.Address{self, coded, absent} {
			x := trial{op: op, words: []api.Word{spoilt(a)}}
			wantCost(t, "cold", x, 2600)
			_, s, _ := x.do(t)
			wantTrue(t, "it is warm then, and nothing else", s.Warm(a) && !s.Warm(bare) && !s.Warm(api.Address{}))
			wantTrue(t, "it stays warm behind the fault", wantRefused(t, "cold", x, 2599, api.ErrGas).Warm(a))
			x.ready = func(s *state.State) { s.Warm(a) }
			wantCost(t, "warm", x, 100)
		}
	}
	m, _ := ran(t, with(0x31, of(bare)), with(0x3b, of(bare)), with(0x3f, of(bare)), with(0x31, of(coded)))
	wantNumber(t, "cold but once", api.MaxGas-m.Gas(), 4*3+2600+100+100+2600)
}
