package gas

import "cairn/opcode"

// unnumbered is the number of an opcode that has none.
const unnumbered = -1

// family answers the opcode that stands for all of a numbered kind, and the number among them; any other opcode stands for itself.
func family(op byte) (byte, int) {
	switch {
	case op >= opcode.Push1 && op < opcode.Dup1:
		return opcode.Push1, int(op-opcode.Push1) + 1
	case op >= opcode.Dup1 && op < opcode.Swap1:
		return opcode.Dup1, int(op-opcode.Dup1) + 1
	case op >= opcode.Swap1 && op < opcode.Log0:
		return opcode.Swap1, int(op-opcode.Swap1) + 1
	case op >= opcode.Log0 && op <= opcode.Log0+mostTopics:
		return opcode.Log0, int(op - opcode.Log0)
	}
	return op, unnumbered
}

// nameOf answers the name of a family, without a number; none, if there is no such opcode.
func nameOf(kind byte) string {
	switch kind / 16 {
	case 0x0:
		return ofRow(kind, "STOP", "ADD", "MUL", "SUB", "DIV", "SDIV", "MOD", "SMOD", "ADDMOD", "MULMOD", "EXP", "SIGNEXTEND")
	case 0x1:
		return ofRow(kind, "LT", "GT", "SLT", "SGT", "EQ", "ISZERO", "AND", "OR", "XOR", "NOT", "BYTE", "SHL", "SHR", "SAR")
	case 0x2:
		return ofRow(kind, "KECCAK256")
	case 0x3:
		return ofRow(kind, "ADDRESS", "BALANCE", "ORIGIN", "CALLER", "CALLVALUE", "CALLDATALOAD", "CALLDATASIZE", "CALLDATACOPY",
			"CODESIZE", "CODECOPY", "GASPRICE", "EXTCODESIZE", "EXTCODECOPY", "RETURNDATASIZE", "RETURNDATACOPY", "EXTCODEHASH")
	case 0x4:
		return ofRow(kind, "BLOCKHASH", "COINBASE", "TIMESTAMP", "NUMBER", "PREVRANDAO", "GASLIMIT", "CHAINID", "SELFBALANCE",
			"BASEFEE", "BLOBHASH", "BLOBBASEFEE")
	case 0x5:
		return ofRow(kind, "POP", "MLOAD", "MSTORE", "MSTORE8", "SLOAD", "SSTORE", "JUMP", "JUMPI", "PC", "MSIZE", "GAS",
			"JUMPDEST", "TLOAD", "TSTORE", "MCOPY", "PUSH0")
	case 0x6:
		return ofRow(kind, "PUSH")
	case 0x8:
		return ofRow(kind, "DUP")
	case 0x9:
		return ofRow(kind, "SWAP")
	case 0xa:
		return ofRow(kind, "LOG")
	case 0xf:
		return ofRow(kind, "CREATE", "CALL", "CALLCODE", "RETURN", "DELEGATECALL", "CREATE2", "", "", "", "", "STATICCALL", "", "",
			"REVERT", "", "SELFDESTRUCT")
	}
	return ""
}

// ofRow answers which of a row's names is that of an opcode: a row begins where the opcode's lower half is 0.
func ofRow(kind byte, names ...string) string {
	at := int(kind % 16)
	if at >= len(names) {
		return ""
	}
	return names[at]
}
