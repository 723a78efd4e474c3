package machine

import (
	"cairn/api"
	"cairn/digest"
	"cairn/opcode"
	"cairn/word"
)

// ofFrame answers the word that ADDRESS to EXTCODEHASH put on the stack: what the frame tells, and accounts.
func (x *instruction) ofFrame() api.Word {
	m, a := x.m, x.words[0]
	switch x.op {
	case opcode.Address:
		return Word(m.frame.Self)
	case opcode.Balance:
		return m.state.Balance(Address(a))
	case opcode.Origin:
		return Word(m.env.Origin)
	case opcode.Caller:
		return Word(m.frame.Caller)
	case opcode.Callvalue:
		return m.frame.Value
	case opcode.Calldataload:
		return numberAt(m.frame.Input, a, bytesOfWord)
	case opcode.Calldatasize:
		return count(len(m.frame.Input))
	case opcode.Codesize:
		return count(len(m.frame.Code))
	case opcode.Gasprice:
		return m.env.Price
	case opcode.Extcodesize:
		return count(len(m.state.Code(Address(a))))
	case opcode.Returndatasize:
		return count(len(m.returned))
	case opcode.Extcodehash:
		return m.codeHash(Address(a))
	}
	return api.Word{}
}

// codeHash answers the hash of an account's code, 0 of one that is empty.
func (m *Machine) codeHash(a api.Address) api.Word {
	if m.state.Empty(a) {
		return api.Word{}
	}
	return wordOf(m.state.CodeHash(a))
}

// ofBlock answers the word that BLOCKHASH to BLOBBASEFEE put on the stack.
func (x *instruction) ofBlock() api.Word {
	m, a := x.m, x.words[0]
	switch x.op {
	case opcode.Blockhash:
		return m.blockHash(a)
	case opcode.Coinbase:
		return Word(m.env.Coinbase)
	case opcode.Timestamp:
		return word.Of(m.env.Time)
	case opcode.Number:
		return word.Of(m.env.Number)
	case opcode.Prevrandao:
		return wordOf(m.env.Random)
	case opcode.Gaslimit:
		return word.Of(m.env.Limit)
	case opcode.Chainid:
		return word.Of(m.env.Chain)
	case opcode.Selfbalance:
		return m.state.Balance(m.frame.Self)
	case opcode.Basefee:
		return m.env.BaseFee
	case opcode.Blobhash:
		return hashAt(m.env.Blobs, a)
	case opcode.Blobbasefee:
		return m.env.BlobFee
	}
	return api.Word{}
}

// blockHash answers the hash of the block of that number, 0 where it can't be asked for.
func (m *Machine) blockHash(number api.Word) api.Word {
	n, small := word.Small(number)
	if !small || n >= m.env.Number {
		return api.Word{}
	}
	return hashAt(m.env.Hashes, word.Of(m.env.Number-1-n))
}

// hashAt answers a hash of a list, 0 where there is none.
func hashAt(l []api.Hash, at api.Word) api.Word {
	n, small := word.Small(at)
	if !small || n >= uint64(len(l)) {
		return api.Word{}
	}
	return wordOf(l[n])
}

// wordOf answers the number of a hash' bytes.
func wordOf(h api.Hash) api.Word { return number(h[:]) }

// ofMachine answers the word that KECCAK256, and MLOAD to PUSH0, put on the stack: what the machine has, and Self's slots.
func (x *instruction) ofMachine() api.Word {
	m, a := x.m, x.words[0]
	switch x.op {
	case opcode.Keccak256:
		return wordOf(digest.Keccak(m.part(room{a, x.words[1]})))
	case opcode.Mload:
		return number(m.part(roomOf(a, bytesOfWord)))
	case opcode.Sload:
		return m.state.Slot(m.frame.Self, a)
	case opcode.Tload:
		return m.state.Passing(m.frame.Self, a)
	case opcode.Pc:
		return count(x.at)
	case opcode.Msize:
		return count(len(m.memory))
	case opcode.Gas:
		return word.Of(m.gas)
	}
	return api.Word{} // PUSH0
}
