// Package opcode names the opcodes, for the layers that tell them apart.
package opcode

// The opcodes; of PUSH, DUP and SWAP, which are numbered and fill their rows, the first.
const (
	Stop = iota
	Add
	Mul
	Sub
	Div
	Sdiv
	Mod
	Smod
	Addmod
	Mulmod
	Exp
	Signextend
)

const (
	Lt = 0x10 + iota
	Gt
	Slt
	Sgt
	Eq
	Iszero
	And
	Or
	Xor
	Not
	Byte
	Shl
	Shr
	Sar
)

const Keccak256 = 0x20

const (
	Address = 0x30 + iota
	Balance
	Origin
	Caller
	Callvalue
	Calldataload
	Calldatasize
	Calldatacopy
	Codesize
	Codecopy
	Gasprice
	Extcodesize
	Extcodecopy
	Returndatasize
	Returndatacopy
	Extcodehash
	Blockhash
	Coinbase
	Timestamp
	Number
	Prevrandao
	Gaslimit
	Chainid
	Selfbalance
	Basefee
	Blobhash
	Blobbasefee
)

const (
	Pop = 0x50 + iota
	Mload
	Mstore
	Mstore8
	Sload
	Sstore
	Jump
	Jumpi
	Pc
	Msize
	Gas
	Jumpdest
	Tload
	Tstore
	Mcopy
	Push0
)

const (
	Push1 = 0x60
	Dup1  = 0x80
	Swap1 = 0x90
)

const (
	Log0 = 0xa0 + iota
	Log1
	Log2
	Log3
	Log4
)

const (
	Create = 0xf0 + iota
	Call
	Callcode
	Return
	Delegatecall
	Create2
)

const (
	Staticcall   = 0xfa
	Revert       = 0xfd
	Selfdestruct = 0xff
)
