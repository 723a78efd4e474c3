package curve

import (
	"cairn/api"
	"cairn/field"
)

// arithmetic is a field in which a curve's coordinates are reckoned with. Its numbers and its elements are of the type E: In turns one
// into the other, Out turns it back. A *field.Ring is the prime field.
type arithmetic[E comparable] interface {
	In(a E) E
	Out(x E) E
	Add(x, y E) E
	Sub(x, y E) E
	Neg(x E) E
	Mul(x, y E) E
	Inv(x E) E
}

// squareField is the field of x0 + x1 u over a prime field, with u u = -1.
type squareField[L api.Limbs] struct{ ring *field.Ring[L] }

func (f squareField[L]) In(a [2]L) [2]L { return [2]L{f.ring.In(a[0]), f.ring.In(a[1])} }

func (f squareField[L]) Out(x [2]L) [2]L { return [2]L{f.ring.Out(x[0]), f.ring.Out(x[1])} }

func (f squareField[L]) Add(x, y [2]L) [2]L {
	return [2]L{f.ring.Add(x[0], y[0]), f.ring.Add(x[1], y[1])}
}

func (f squareField[L]) Sub(x, y [2]L) [2]L {
	return [2]L{f.ring.Sub(x[0], y[0]), f.ring.Sub(x[1], y[1])}
}

func (f squareField[L]) Neg(x [2]L) [2]L { return [2]L{f.ring.Neg(x[0]), f.ring.Neg(x[1])} }

// Mul takes x0 y1 + x1 y0 out of the product of the sums, as products are far dearer than sums.
func (f squareField[L]) Mul(x, y [2]L) [2]L {
	r := f.ring
	first, last := r.Mul(x[0], y[0]), r.Mul(x[1], y[1])
	all := r.Mul(r.Add(x[0], x[1]), r.Add(y[0], y[1]))
	return [2]L{r.Sub(first, last), r.Sub(r.Sub(all, first), last)}
}

// Inv goes by (x0 + x1 u)(x0 - x1 u) = x0^2 + x1^2, which is 0 of 0 alone, as -1 has no root in the prime field.
func (f squareField[L]) Inv(x [2]L) [2]L {
	r := f.ring
	over := r.Inv(r.Add(r.Mul(x[0], x[0]), r.Mul(x[1], x[1])))
	return [2]L{r.Mul(x[0], over), r.Neg(r.Mul(x[1], over))}
}
