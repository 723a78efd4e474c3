package pre

import (
	"cairn/api"
	"cairn/curve"
	"cairn/kzg"
	"cairn/pairing"
	"cairn/secp"
)

const (
	shortBytes = 2 * wordBytes // bytes of a point of G1
	longBytes  = 4 * wordBytes // bytes of a point of G2
	pairBytes  = shortBytes + longBytes
)

// unlessOdd is the v of a signature whose Odd is 0; that of the other one is 1 more.
const unlessOdd = 27

// signer is the contract 1.
type signer struct{ fixed }

// run answers no bytes where there is no signer: that is no failure.
func (signer) run(input []byte) ([]byte, api.Errno) {
	v := wordAt(input, wordBytes)
	if v != (api.Word{unlessOdd}) && v != (api.Word{unlessOdd + 1}) {
		return nil, api.OK
	}
	g := api.Signature{R: wordAt(input, 2*wordBytes), S: wordAt(input, 3*wordBytes), Odd: int(v[0] - unlessOdd)}
	a, e := secp.Sender(api.Hash(cut(input, 0, wordBytes)), g)
	if e != api.OK {
		return nil, api.OK
	}
	return atWordsEnd(a[:]...), api.OK
}

// sum is the contract 6.
type sum struct{ fixed }

func (sum) run(input []byte) ([]byte, api.Errno) {
	p, ofP := curve.ReadBn1(cut(input, 0, shortBytes))
	q, ofQ := curve.ReadBn1(cut(input, shortBytes, shortBytes))
	if ofP != api.OK || ofQ != api.OK {
		return nil, api.ErrFails
	}
	// Points that were read can be added: no error comes of it.
	r, _ := curve.Bn().Add1(p, q)
	return curve.WriteBn1(r), api.OK
}

// multiple is the contract 7.
type multiple struct{ fixed }

func (multiple) run(input []byte) ([]byte, api.Errno) {
	p, e := curve.ReadBn1(cut(input, 0, shortBytes))
	if e != api.OK {
		return nil, api.ErrFails
	}
	// A point that was read has multiples: no error comes of it.
	r, _ := curve.Bn().Mul1(p, wordAt(input, shortBytes))
	return curve.WriteBn1(r), api.OK
}

// pairs is the contract 8.
type pairs struct{}

func (pairs) cost(input []byte) (uint64, api.Errno) {
	return 45000 + 34000*uint64(len(input)/pairBytes), api.OK
}

func (pairs) run(input []byte) ([]byte, api.Errno) {
	if len(input)%pairBytes != 0 {
		return nil, api.ErrFails
	}
	var ps []api.P1[[4]uint64]
	var qs []api.P2[[4]uint64]
	for at := 0; at < len(input); at += pairBytes {
		p, ofP := curve.ReadBn1(cut(input, at, shortBytes))
		q, ofQ := curve.ReadBn2(cut(input, at+shortBytes, longBytes))
		if ofP != api.OK || ofQ != api.OK {
			return nil, api.ErrFails
		}
		ps, qs = append(ps, p), append(qs, q)
	}
	// Points that were read belong to their groups, and there are as many of both: no error comes of it.
	if isOne, _ := pairing.Bn(ps, qs); isOne {
		return atWordsEnd(1), api.OK
	}
	return atWordsEnd(0), api.OK
}

// claim is the contract 10.
type claim struct{ fixed }

func (claim) run(input []byte) ([]byte, api.Errno) {
	out, e := kzg.Check(input)
	if e != api.OK {
		return nil, api.ErrFails
	}
	return out, api.OK
}
