package machine

import (
	"cairn/api"
	"cairn/opcode"
	"cairn/word"
)

// reckon answers what an opcode from ADD to SAR makes of words: 15.2
func reckon(op byte, a, b, c api.Word) api.Word {
	switch op {
	case opcode.Add:
		return word.Add(a, b)
	case opcode.Mul:
		return word.Mul(a, b)
	case opcode.Sub:
		return word.Sub(a, b)
	case opcode.Div:
		return word.Div(a, b)
	case opcode.Sdiv:
		return word.SDiv(a, b)
	case opcode.Mod:
		return word.Mod(a, b)
	case opcode.Smod:
		return word.SMod(a, b)
	case opcode.Addmod:
		return word.AddMod(a, b, c)
	case opcode.Mulmod:
		return word.MulMod(a, b, c)
	case opcode.Exp:
		return word.Exp(a, b)
	case opcode.Signextend:
		return word.SignExtend(a, b)
	}
	return compare(op, a, b)
}

// compare answers the same of LT to SAR: words held against one another, and their bits.
func compare(op byte, a, b api.Word) api.Word {
	switch op {
	case opcode.Gt:
		a, b = b, a
		fallthrough
	case opcode.Lt:
		return truth(word.Cmp(a, b) < 0)
	case opcode.Sgt:
		a, b = b, a
		fallthrough
	case opcode.Slt:
		return truth(word.SCmp(a, b) < 0)
	case opcode.Iszero:
		b = api.Word{}
		fallthrough
	case opcode.Eq:
		return truth(a == b)
	case opcode.And:
		return word.And(a, b)
	case opcode.Or:
		return word.Or(a, b)
	case opcode.Xor:
		return word.Xor(a, b)
	case opcode.Not:
		return word.Not(a)
	case opcode.Byte:
		return word.Byte(a, b)
	case opcode.Shl:
		return word.Shl(a, b)
	case opcode.Shr:
		return word.Shr(a, b)
	case opcode.Sar:
		return word.Sar(a, b)
	}
	return api.Word{}
}

// truth answers 1 of what is so, else 0.
func truth(is bool) api.Word {
	if is {
		return word.Of(1)
	}
	return api.Word{}
}
