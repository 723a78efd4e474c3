package secp

import (
	"cairn/api"
	"cairn/digest"
	"cairn/field"
	"cairn/word"
)

// Lift answers the point of that X whose Y modulo 2 is odd: P6.3
func Lift(x api.Word, odd int) (api.Point, api.Errno) {
	if odd != 0 && odd != 1 || !isBelow(x, field.SecpP()) {
		return api.Point{}, api.ErrPoint
	}
	c := newCurve()
	y, ok := c.field.Root(c.squareOfY(c.field.In(x)))
	if !ok {
		return api.Point{}, api.ErrPoint
	}
	p := api.Point{X: x, Y: c.field.Out(y)}
	if parity(p) != odd {
		// p is odd, so that of Y and p - Y one is even.
		p = c.negative(p)
	}
	return p, api.OK
}

// parity answers Y modulo 2.
func parity(p api.Point) int { return int(p.Y[0] % 2) }

// Public answers the key's point: P6.3
func Public(key api.Word) (api.Point, api.Errno) {
	if !isScalar(key) {
		return api.Point{}, api.ErrSecret
	}
	return newCurve().times(Base(), key), api.OK
}

// isScalar tells whether k is neither 0 nor above the numbers modulo n.
func isScalar(k api.Word) bool { return k != (api.Word{}) && isBelow(k, field.SecpN()) }

// Address answers the account's address whose key's point is p: P6.3
func Address(p api.Point) (api.Address, api.Errno) {
	if p.Inf || !Good(p) {
		return api.Address{}, api.ErrPoint
	}
	x, y := word.Bytes(p.X), word.Bytes(p.Y)
	h := digest.Keccak(append(x[:], y[:]...))
	var a api.Address
	copy(a[:], h[len(h)-len(a):])
	return a, api.OK
}
