package curve

import "cairn/api"

// point is a point of E1 or E2, its coordinates as numbers: one text serves both.
type point[E comparable] struct {
	x, y E
	inf  bool
}

// infinity answers the neutral point.
func infinity[E comparable]() point[E] { return point[E]{inf: true} }

// group is the curve y^2 = x^3 + b over a field, with the group of those of its points that order times come to infinity. A nil one is
// that of a Curve that nobody made.
type group[E comparable] struct {
	field     arithmetic[E]
	zero, one E // as elements
	b         E // as an element
	base      point[E]
	order     api.Word
}

func newGroup[E comparable](f arithmetic[E], t terms[E]) *group[E] {
	var nought E
	return &group[E]{field: f, zero: f.In(nought), one: f.In(t.one), b: f.In(t.b), base: t.base, order: t.order}
}

// beside answers the point that stands beside an error.
func beside[E comparable](e api.Errno) point[E] {
	if e == api.ErrNone {
		return infinity[E]()
	}
	return point[E]{}
}

// generator answers the group's base.
func (g *group[E]) generator() point[E] {
	if g == nil {
		return infinity[E]()
	}
	return g.base
}

// good answers what is wrong with p as a point of the curve.
func (g *group[E]) good(p point[E]) api.Errno {
	if g == nil {
		return api.ErrNone
	}
	if p.inf {
		if p != infinity[E]() {
			return api.ErrCoord
		}
		return api.OK
	}
	if !g.isBelow(p.x) || !g.isBelow(p.y) {
		return api.ErrCoord
	}
	f := g.field
	x, y := f.In(p.x), f.In(p.y)
	if f.Mul(y, y) != g.squareOfY(x) {
		return api.ErrCurve
	}
	return api.OK
}

// squareOfY answers y^2 of the points whose x is the element x.
func (g *group[E]) squareOfY(x E) E {
	f := g.field
	return f.Add(f.Mul(f.Mul(x, x), x), g.b)
}

// isBelow tells whether a coordinate is below the prime, for only such a number comes out of the field as it went in.
func (g *group[E]) isBelow(a E) bool { return g.field.Out(g.field.In(a)) == a }

// belongs answers what keeps p out of the group.
func (g *group[E]) belongs(p point[E]) api.Errno {
	if e := g.good(p); e != api.OK {
		return e
	}
	if g.times(p, g.order).z != g.zero {
		return api.ErrGroup
	}
	return api.OK
}

// add answers p and q, added.
func (g *group[E]) add(p, q point[E]) (point[E], api.Errno) {
	if e := g.good(p); e != api.OK {
		return beside[E](e), e
	}
	if e := g.good(q); e != api.OK {
		return beside[E](e), e
	}
	if q.inf {
		return p, api.OK
	}
	return g.out(g.plus(g.scale(p), g.at(q))), api.OK
}

// negate answers p with y's negative.
func (g *group[E]) negate(p point[E]) (point[E], api.Errno) {
	if e := g.good(p); e != api.OK {
		return beside[E](e), e
	}
	// Of infinity y is 0, and stays so.
	p.y = g.negative(p.y)
	return p, api.OK
}

// negative answers the number that is a's negative in the field.
func (g *group[E]) negative(a E) E { return g.field.Out(g.field.Neg(g.field.In(a))) }

// multiply answers k times p.
func (g *group[E]) multiply(p point[E], k api.Word) (point[E], api.Errno) {
	if e := g.good(p); e != api.OK {
		return beside[E](e), e
	}
	return g.out(g.times(p, k)), api.OK
}
