package gas_test

import (
	"strconv"
	"testing"

	"cairn/api"
	"cairn/gas"
)

// rows is the table of section 14.1.
func rows() map[byte]api.OpInfo {
	return map[byte]api.OpInfo{
		0x00: {Name: "STOP"},
		0x01: {Name: "ADD", Gas: 3, Pops: 2, Pushes: 1},
		0x02: {Name: "MUL", Gas: 5, Pops: 2, Pushes: 1},
		0x03: {Name: "SUB", Gas: 3, Pops: 2, Pushes: 1},
		0x04: {Name: "DIV", Gas: 5, Pops: 2, Pushes: 1},
		0x05: {Name: "SDIV", Gas: 5, Pops: 2, Pushes: 1},
		0x06: {Name: "MOD", Gas: 5, Pops: 2, Pushes: 1},
		0x07: {Name: "SMOD", Gas: 5, Pops: 2, Pushes: 1},
		0x08: {Name: "ADDMOD", Gas: 8, Pops: 3, Pushes: 1},
		0x09: {Name: "MULMOD", Gas: 8, Pops: 3, Pushes: 1},
		0x0a: {Name: "EXP", Gas: 10, Pops: 2, Pushes: 1},
		0x0b: {Name: "SIGNEXTEND", Gas: 5, Pops: 2, Pushes: 1},
		0x10: {Name: "LT", Gas: 3, Pops: 2, Pushes: 1},
		0x11: {Name: "GT", Gas: 3, Pops: 2, Pushes: 1},
		0x12: {Name: "SLT", Gas: 3, Pops: 2, Pushes: 1},
		0x13: {Name: "SGT", Gas: 3, Pops: 2, Pushes: 1},
		0x14: {Name: "EQ", Gas: 3, Pops: 2, Pushes: 1},
		0x15: {Name: "ISZERO", Gas: 3, Pops: 1, Pushes: 1},
		0x16: {Name: "AND", Gas: 3, Pops: 2, Pushes: 1},
		0x17: {Name: "OR", Gas: 3, Pops: 2, Pushes: 1},
		0x18: {Name: "XOR", Gas: 3, Pops: 2, Pushes: 1},
		0x19: {Name: "NOT", Gas: 3, Pops: 1, Pushes: 1},
		0x1a: {Name: "BYTE", Gas: 3, Pops: 2, Pushes: 1},
		0x1b: {Name: "SHL", Gas: 3, Pops: 2, Pushes: 1},
		0x1c: {Name: "SHR", Gas: 3, Pops: 2, Pushes: 1},
		0x1d: {Name: "SAR", Gas: 3, Pops: 2, Pushes: 1},
		0x20: {Name: "KECCAK256", Gas: 30, Pops: 2, Pushes: 1},
		0x30: {Name: "ADDRESS", Gas: 2, Pushes: 1},
		0x31: {Name: "BALANCE", Pops: 1, Pushes: 1},
		0x32: {Name: "ORIGIN", Gas: 2, Pushes: 1},
		0x33: {Name: "CALLER", Gas: 2, Pushes: 1},
		0x34: {Name: "CALLVALUE", Gas: 2, Pushes: 1},
		0x35: {Name: "CALLDATALOAD", Gas: 3, Pops: 1, Pushes: 1},
		0x36: {Name: "CALLDATASIZE", Gas: 2, Pushes: 1},
		0x37: {Name: "CALLDATACOPY", Gas: 3, Pops: 3},
		0x38: {Name: "CODESIZE", Gas: 2, Pushes: 1},
		0x39: {Name: "CODECOPY", Gas: 3, Pops: 3},
		0x3a: {Name: "GASPRICE", Gas: 2, Pushes: 1},
		0x3b: {Name: "EXTCODESIZE", Pops: 1, Pushes: 1},
		0x3c: {Name: "EXTCODECOPY", Pops: 4},
		0x3d: {Name: "RETURNDATASIZE", Gas: 2, Pushes: 1},
		0x3e: {Name: "RETURNDATACOPY", Gas: 3, Pops: 3},
		0x3f: {Name: "EXTCODEHASH", Pops: 1, Pushes: 1},
		0x40: {Name: "BLOCKHASH", Gas: 20, Pops: 1, Pushes: 1},
		0x41: {Name: "COINBASE", Gas: 2, Pushes: 1},
		0x42: {Name: "TIMESTAMP", Gas: 2, Pushes: 1},
		0x43: {Name: "NUMBER", Gas: 2, Pushes: 1},
		0x44: {Name: "PREVRANDAO", Gas: 2, Pushes: 1},
		0x45: {Name: "GASLIMIT", Gas: 2, Pushes: 1},
		0x46: {Name: "CHAINID", Gas: 2, Pushes: 1},
		0x47: {Name: "SELFBALANCE", Gas: 5, Pushes: 1},
		0x48: {Name: "BASEFEE", Gas: 2, Pushes: 1},
		0x49: {Name: "BLOBHASH", Gas: 3, Pops: 1, Pushes: 1},
		0x4a: {Name: "BLOBBASEFEE", Gas: 2, Pushes: 1},
		0x50: {Name: "POP", Gas: 2, Pops: 1},
		0x51: {Name: "MLOAD", Gas: 3, Pops: 1, Pushes: 1},
		0x52: {Name: "MSTORE", Gas: 3, Pops: 2},
		0x53: {Name: "MSTORE8", Gas: 3, Pops: 2},
		0x54: {Name: "SLOAD", Pops: 1, Pushes: 1},
		0x55: {Name: "SSTORE", Pops: 2},
		0x56: {Name: "JUMP", Gas: 8, Pops: 1},
		0x57: {Name: "JUMPI", Gas: 10, Pops: 2},
		0x58: {Name: "PC", Gas: 2, Pushes: 1},
		0x59: {Name: "MSIZE", Gas: 2, Pushes: 1},
		0x5a: {Name: "GAS", Gas: 2, Pushes: 1},
		0x5b: {Name: "JUMPDEST", Gas: 1},
		0x5c: {Name: "TLOAD", Gas: 100, Pops: 1, Pushes: 1},
		0x5d: {Name: "TSTORE", Gas: 100, Pops: 2},
		0x5e: {Name: "MCOPY", Gas: 3, Pops: 3},
		0x5f: {Name: "PUSH0", Gas: 2, Pushes: 1},
		0xf0: {Name: "CREATE", Gas: 32000, Pops: 3, Pushes: 1},
		0xf1: {Name: "CALL", Pops: 7, Pushes: 1},
		0xf2: {Name: "CALLCODE", Pops: 7, Pushes: 1},
		0xf3: {Name: "RETURN", Pops: 2},
		0xf4: {Name: "DELEGATECALL", Pops: 6, Pushes: 1},
		0xf5: {Name: "CREATE2", Gas: 32000, Pops: 4, Pushes: 1},
		0xfa: {Name: "STATICCALL", Pops: 6, Pushes: 1},
		0xfd: {Name: "REVERT", Pops: 2},
		0xff: {Name: "SELFDESTRUCT", Gas: 5000, Pops: 1},
	}
}

// numbered puts the families of the words below the table into it.
func numbered(l map[byte]api.OpInfo) {
	for n := 1; n <= 32; n++ {
		l[byte(0x5f+n)] = api.OpInfo{Name: "PUSH" + strconv.Itoa(n), Gas: 3, Pushes: 1, Data: n}
	}
	for n := 1; n <= 16; n++ {
		l[byte(0x7f+n)] = api.OpInfo{Name: "DUP" + strconv.Itoa(n), Gas: 3, Pops: n, Pushes: n + 1}
		l[byte(0x8f+n)] = api.OpInfo{Name: "SWAP" + strconv.Itoa(n), Gas: 3, Pops: n + 1, Pushes: n + 1}
	}
	for n := 0; n <= 4; n++ {
		l[byte(0xa0+n)] = api.OpInfo{Name: "LOG" + strconv.Itoa(n), Gas: 375, Pops: n + 2}
	}
}

// P14.1: each of the 256 bytes.
func TestOp(t *testing.T) {
	l := rows()
	numbered(l)
	if len(l) != 148 {
		t.Fatal("the chapter has another count of opcodes than", len(l))
	}
	for i := range 256 {
		op := byte(i)
		should, is := l[op]
		if o, ok := gas.Op(op); o != should || ok != is {
			t.Errorf("Op(%x): %v, %v, not %v, %v", op, o, ok, should, is)
		}
	}
}

// P14.1: the first and the last of each family, and their neighbours.
func TestOpFamilies(t *testing.T) {
	for op, should := range map[byte]api.OpInfo{
		0x5f: {Name: "PUSH0", Gas: 2, Pushes: 1},
		0x60: {Name: "PUSH1", Gas: 3, Pushes: 1, Data: 1},
		0x7f: {Name: "PUSH32", Gas: 3, Pushes: 1, Data: 32},
		0x80: {Name: "DUP1", Gas: 3, Pops: 1, Pushes: 2},
		0x8f: {Name: "DUP16", Gas: 3, Pops: 16, Pushes: 17},
		0x90: {Name: "SWAP1", Gas: 3, Pops: 2, Pushes: 2},
		0x9f: {Name: "SWAP16", Gas: 3, Pops: 17, Pushes: 17},
		0xa0: {Name: "LOG0", Gas: 375, Pops: 2},
		0xa4: {Name: "LOG4", Gas: 375, Pops: 6},
	} {
		if o, is := gas.Op(op); o != should || !is {
			t.Errorf("Op(%x): %v, %v, not %v", op, o, is, should)
		}
	}
}

// P14.1: what lies between the rows.
func TestOpOfNone(t *testing.T) {
	for _, op := range []byte{0x0c, 0x0f, 0x1e, 0x1f, 0x21, 0x2f, 0x4b, 0x4f, 0xa5, 0xaf, 0xb0, 0xbf, 0xc0, 0xd0, 0xe0, 0xef, 0xf6, 0xf9, 0xfb, 0xfc, 0xfe} {
		if o, is := gas.Op(op); o != (api.OpInfo{}) || is {
			t.Errorf("Op(%x): %v, %v", op, o, is)
		}
	}
}
