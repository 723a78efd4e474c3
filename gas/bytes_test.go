package gas_test

import (
	"bytes"
	"testing"

	"cairn/api"
	"cairn/gas"
)

// lengths are numbers of bytes that a memory may have, with their words.
func lengths() [][2]uint64 {
	return [][2]uint64{{0, 0}, {1, 1}, {31, 1}, {32, 1}, {33, 2}, {64, 2}, {65, 3}, {24576, 768}, {mostMemory - 32, 262143}, {mostMemory - 31, 262144}, {mostMemory, 262144}}
}

// P14.3
func TestCopy(t *testing.T) {
	for _, l := range lengths() {
		cost, e := gas.Copy(api.Word{l[0]})
		wantErrno(t, "Copy", cost, e, 3*l[1], api.OK, l[0])
	}
	for _, x := range huge() {
		cost, e := gas.Copy(x)
		wantErrno(t, "Copy", cost, e, 0, api.ErrGas, x)
	}
}

// P14.3
func TestKeccak(t *testing.T) {
	for _, l := range lengths() {
		cost, e := gas.Keccak(api.Word{l[0]})
		wantErrno(t, "Keccak", cost, e, 6*l[1], api.OK, l[0])
	}
	for _, x := range huge() {
		cost, e := gas.Keccak(x)
		wantErrno(t, "Keccak", cost, e, 0, api.ErrGas, x)
	}
}

// P14.3
func TestLog(t *testing.T) {
	for topics := range 5 {
		for _, l := range lengths() {
			cost, e := gas.Log(topics, api.Word{l[0]})
			wantErrno(t, "Log", cost, e, uint64(375*topics)+8*l[0], api.OK, topics, l[0])
		}
		for _, x := range huge() {
			cost, e := gas.Log(topics, x)
			wantErrno(t, "Log", cost, e, 0, api.ErrGas, topics, x)
		}
	}
}

// P14.3, P4: topics stand ahead of long.
func TestLogOfNoTopics(t *testing.T) {
	for _, topics := range []int{-1, 5, 6, 255, 256, 1 << 32, -1 << 63, 1<<63 - 1} {
		for _, x := range append(huge(), api.Word{}, api.Word{1}, api.Word{mostMemory}) {
			cost, e := gas.Log(topics, x)
			wantErrno(t, "Log", cost, e, 0, api.ErrRange, topics, x)
		}
	}
}

// P14.3
func TestExp(t *testing.T) {
	for y, should := range map[api.Word]uint64{
		{}: 0, {1}: 50, {255}: 50, {256}: 100, {65535}: 100, {65536}: 150, {1<<56 - 1}: 350, {1 << 56}: 400, {1<<64 - 1}: 400,
		{0, 1}: 450, {1<<64 - 1, 255}: 450, {0, 256}: 500, {0, 0, 1}: 850, {0, 0, 0, 1}: 1250, {0, 0, 0, 1<<56 - 1}: 1550, {0, 0, 0, 1 << 56}: 1600, top: 1600,
	} {
		want(t, "Exp", gas.Exp(y), should, y)
	}
}

// P14.3: each bit alone, with all bits below it and with none.
func TestExpOfEachBit(t *testing.T) {
	var below api.Word
	for i := range 256 {
		var bit api.Word
		bit[i/64] = 1 << (i % 64)
		below[i/64] |= bit[i/64]
		want(t, "Exp", gas.Exp(bit), uint64(50*(i/8+1)), bit)
		want(t, "Exp", gas.Exp(below), uint64(50*(i/8+1)), below)
	}
}

// P14.3
func TestInit(t *testing.T) {
	for _, l := range append(lengths(), [2]uint64{49152, 1536}, [2]uint64{49153, 1537}) {
		want(t, "Init", gas.Init(l[0]), 2*l[1], l[0])
	}
	for _, n := range tooLong() {
		want(t, "Init", gas.Init(n), tooDear, n)
	}
}

// P14.3
func TestDeposit(t *testing.T) {
	for _, n := range []uint64{0, 1, 2, 31, 32, 33, 24576, 24577, mostMemory - 1, mostMemory} {
		want(t, "Deposit", gas.Deposit(n), 200*n, n)
	}
	for _, n := range tooLong() {
		want(t, "Deposit", gas.Deposit(n), tooDear, n)
	}
}

// tooLong are numbers above MaxMemory; some times 200 are small modulo 2^64.
func tooLong() []uint64 {
	return []uint64{mostMemory + 1, mostMemory + 32, 1 << 32, 1 << 61, 1<<61 + 1, 92233720368547759, 1 << 63, 1<<64 - 1}
}

// P14.3
func TestData(t *testing.T) {
	for _, c := range []struct {
		b    []byte
		cost uint64
	}{
		{nil, 0},
		{[]byte{}, 0},
		{[]byte{0}, 4},
		{[]byte{1}, 16},
		{[]byte{255}, 16},
		{[]byte{0, 0, 0}, 12},
		{[]byte{0, 7, 0, 128}, 40},
		{bytes.Repeat([]byte{0}, 131072), 524288},
		{bytes.Repeat([]byte{9}, 131072), 2097152},
		{[]byte{1, 2, 3, 0, 5}[:2], 32},
	} {
		want(t, "Data", gas.Data(c.b), c.cost, len(c.b))
	}
	for i := 1; i < 256; i++ {
		want(t, "Data", gas.Data([]byte{byte(i), 0}), 20, i)
	}
}
