package call

import (
	"cairn/api"
	"cairn/digest"
	"cairn/pre"
	"cairn/rlp"
	"cairn/word"
)

// Made answers the address of what is created from an account that has that nonce: P17.1
func Made(from api.Address, nonce uint64) api.Address {
	form, _ := rlp.Encode(rlp.List(rlp.Text(from[:]), rlp.Number(nonce))) // fails of greater items alone
	return last(digest.Keccak(form))
}

// Made2 answers the address of what is created from an account by init code, with a salt: P17.1
func Made2(from api.Address, salt api.Word, init []byte) api.Address {
	salted, code := word.Bytes(salt), digest.Keccak(init)
	return last(digest.New().Write([]byte{0xff}).Write(from[:]).Write(salted[:]).Write(code[:]).Sum())
}

// last answers the address that a hash ends with.
func last(h api.Hash) api.Address { return api.Address(h[len(h)-len(api.Address{}):]) }

// Pre answers whether a contract of package pre is at an address: P17.1
func Pre(a api.Address) bool {
	_, is := pre.Is(a)
	return is
}
