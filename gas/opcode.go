package gas

// The opcodes; of those that are numbered, the first.
const (
	opStop = iota
	opAdd
	opMul
	opSub
	opDiv
	opSdiv
	opMod
	opSmod
	opAddmod
	opMulmod
	opExp
	opSignextend
)

const (
	opLt = 0x10 + iota
	opGt
	opSlt
	opSgt
	opEq
	opIszero
	opAnd
	opOr
	opXor
	opNot
	opByte
	opShl
	opShr
	opSar
)

const opKeccak256 = 0x20

const (
	opAddress = 0x30 + iota
	opBalance
	opOrigin
	opCaller
	opCallvalue
	opCalldataload
	opCalldatasize
	opCalldatacopy
	opCodesize
	opCodecopy
	opGasprice
	opExtcodesize
	opExtcodecopy
	opReturndatasize
	opReturndatacopy
	opExtcodehash
	opBlockhash
	opCoinbase
	opTimestamp
	opNumber
	opPrevrandao
	opGaslimit
	opChainid
	opSelfbalance
	opBasefee
	opBlobhash
	opBlobbasefee
)

const (
	opPop = 0x50 + iota
	opMload
	opMstore
	opMstore8
	opSload
	opSstore
	opJump
	opJumpi
	opPc
	opMsize
	opGas
	opJumpdest
	opTload
	opTstore
	opMcopy
	opPush0
)

const (
	opPush1 = 0x60
	opDup1  = 0x80
	opSwap1 = 0x90
	opLog0  = 0xa0
)

const (
	opCreate = 0xf0 + iota
	opCall
	opCallcode
	opReturn
	opDelegatecall
	opCreate2
)

const (
	opStaticcall   = 0xfa
	opRevert       = 0xfd
	opSelfdestruct = 0xff
)

// unnumbered is the number of an opcode that has none.
const unnumbered = -1

// family answers the opcode that stands for all of a numbered kind, and the number among them; any other opcode stands for itself.
func family(op byte) (byte, int) {
	switch {
	case op >= opPush1 && op < opDup1:
		return opPush1, int(op-opPush1) + 1
	case op >= opDup1 && op < opSwap1:
		return opDup1, int(op-opDup1) + 1
	case op >= opSwap1 && op < opLog0:
		return opSwap1, int(op-opSwap1) + 1
	case op >= opLog0 && op <= opLog0+mostTopics:
		return opLog0, int(op - opLog0)
	}
	return op, unnumbered
}

// nameOf answers the name of a family, without a number; none, if there is no such opcode.
func nameOf(kind byte) string {
	switch kind / 16 {
	case 0x0:
		return ofRow(kind, "STOP", "ADD", "MUL", "SUB", "DIV", "SDIV", "MOD", "SMOD", "ADDMOD", "MULMOD", "EXP", "SIGNEXTEND")
	case 0x1:
		return ofRow(kind, "LT", "GT", "SLT", "SGT", "EQ", "ISZERO", "AND", "OR", "XOR", "NOT", "BYTE", "SHL", "SHR", "SAR")
	case 0x2:
		return ofRow(kind, "KECCAK256")
	case 0x3:
		return ofRow(kind, "ADDRESS", "BALANCE", "ORIGIN", "CALLER", "CALLVALUE", "CALLDATALOAD", "CALLDATASIZE", "CALLDATACOPY",
			"CODESIZE", "CODECOPY", "GASPRICE", "EXTCODESIZE", "EXTCODECOPY", "RETURNDATASIZE", "RETURNDATACOPY", "EXTCODEHASH")
	case 0x4:
		return ofRow(kind, "BLOCKHASH", "COINBASE", "TIMESTAMP", "NUMBER", "PREVRANDAO", "GASLIMIT", "CHAINID", "SELFBALANCE",
			"BASEFEE", "BLOBHASH", "BLOBBASEFEE")
	case 0x5:
		return ofRow(kind, "POP", "MLOAD", "MSTORE", "MSTORE8", "SLOAD", "SSTORE", "JUMP", "JUMPI", "PC", "MSIZE", "GAS",
			"JUMPDEST", "TLOAD", "TSTORE", "MCOPY", "PUSH0")
	case 0x6:
		return ofRow(kind, "PUSH")
	case 0x8:
		return ofRow(kind, "DUP")
	case 0x9:
		return ofRow(kind, "SWAP")
	case 0xa:
		return ofRow(kind, "LOG")
	case 0xf:
		return ofRow(kind, "CREATE", "CALL", "CALLCODE", "RETURN", "DELEGATECALL", "CREATE2", "", "", "", "", "STATICCALL", "", "",
			"REVERT", "", "SELFDESTRUCT")
	}
	return ""
}

// ofRow answers which of a row's names is that of an opcode: a row begins where the opcode's lower half is 0.
func ofRow(kind byte, names ...string) string {
	at := int(kind % 16)
	if at >= len(names) {
		return ""
	}
	return names[at]
}
