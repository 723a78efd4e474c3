package secp

import (
	"cairn/api"
	"cairn/field"
	"cairn/word"
)

// Sign answers the signature of h by a key, with a nonce: P6.4
func Sign(key api.Word, h api.Hash, nonce api.Word) (api.Signature, api.Errno) {
	if !isScalar(key) {
		return api.Signature{}, api.ErrSecret
	}
	if !isScalar(nonce) {
		return api.Signature{}, api.ErrSign
	}
	p := newCurve().times(Base(), nonce)
	m := newScalars()
	sum := m.Add(m.In(number(h)), m.Mul(m.In(p.X), m.In(key)))
	s := m.Mul(sum, m.Inv(m.In(nonce)))
	g := api.Signature{R: p.X, S: m.Out(s), Odd: parity(p)}
	if !isScalar(g.R) || !isScalar(g.S) {
		return api.Signature{}, api.ErrSign
	}
	if !Low(g.S) {
		// -s goes with the nonce's other point, that of -Y.
		g.S, g.Odd = m.Out(m.Neg(s)), 1-g.Odd
	}
	return g, api.OK
}

// newScalars answers the ring modulo n, in which keys, nonces and signatures are reckoned with.
func newScalars() *field.Ring[element] {
	// SecpN is odd and not below 3: no error comes of it.
	r, _ := field.Make(field.SecpN())
	return r
}

// number answers the number of h's bytes.
func number(h api.Hash) api.Word {
	// A hash has no more bytes than a word: no error comes of it.
	x, _ := word.Read(h[:])
	return x
}

// Verify answers whether r and s sign h by the key whose point is p: P6.5
func Verify(p api.Point, h api.Hash, r, s api.Word) bool {
	c := newCurve()
	if p.Inf || !c.has(p) || !isScalar(r) || !isScalar(s) {
		return false
	}
	m := newScalars()
	over := m.Inv(m.In(s))
	q := c.sum(Base(), m.Out(m.Mul(m.In(number(h)), over)), p, m.Out(m.Mul(m.In(r), over)))
	return !q.Inf && m.In(q.X) == m.In(r)
}

// Recover answers the point of the key that signed h: P6.6
func Recover(h api.Hash, g api.Signature) (api.Point, api.Errno) {
	if !isScalar(g.R) || !isScalar(g.S) {
		return api.Point{}, api.ErrSign
	}
	q, e := Lift(g.R, g.Odd)
	if e != api.OK {
		return api.Point{}, api.ErrSign
	}
	m := newScalars()
	over := m.Inv(m.In(g.R))
	p := newCurve().sum(q, m.Out(m.Mul(m.In(g.S), over)), Base(), m.Out(m.Neg(m.Mul(m.In(number(h)), over))))
	if p.Inf {
		return api.Point{}, api.ErrSign
	}
	return p, api.OK
}

// Sender answers the address of the key that signed h: P6.6
func Sender(h api.Hash, g api.Signature) (api.Address, api.Errno) {
	p, e := Recover(h, g)
	if e != api.OK {
		return api.Address{}, e
	}
	return Address(p)
}

// Low answers whether s is at most n / 2: P6.6
func Low(s api.Word) bool { return word.Cmp(s, word.Shr(word.Of(1), field.SecpN())) <= 0 }
