package curve

import (
	"iter"

	"cairn/api"
)

// place is a point other than infinity, of the field's elements.
type place[E comparable] struct{ x, y E }

// scaled is a point as a place x, y and a z: it stands for x / z^2 and y / z^3, and for infinity where z is 0. Sums of scaled points
// need no division, which is by far the dearest thing to reckon.
type scaled[E comparable] struct {
	place[E]
	z E
}

// at answers the place of a point other than infinity.
func (g *group[E]) at(p point[E]) place[E] { return place[E]{g.field.In(p.x), g.field.In(p.y)} }

// nowhere answers infinity as a scaled point.
func (g *group[E]) nowhere() scaled[E] { return scaled[E]{place[E]{g.one, g.one}, g.zero} }

// scale answers a point as a scaled one.
func (g *group[E]) scale(p point[E]) scaled[E] {
	if p.inf {
		return g.nowhere()
	}
	return scaled[E]{g.at(p), g.one}
}

// out answers the point that s stands for.
func (g *group[E]) out(s scaled[E]) point[E] {
	if s.z == g.zero {
		return infinity[E]()
	}
	f := g.field
	over := f.Inv(s.z)
	square := f.Mul(over, over)
	return point[E]{x: f.Out(f.Mul(s.x, square)), y: f.Out(f.Mul(s.y, f.Mul(square, over)))}
}

// times answers k times p.
func (g *group[E]) times(p point[E], k api.Word) scaled[E] {
	s := g.nowhere()
	if p.inf {
		return s
	}
	q := g.at(p)
	for set := range bits(k) {
		s = g.double(s)
		if set {
			s = g.plus(s, q)
		}
	}
	return s
}

// bits tells the bits of k, the highest first, from the highest one that is set.
func bits(k api.Word) iter.Seq[bool] {
	return func(yield func(set bool) bool) {
		begun := false
		for i := 64*len(k) - 1; i >= 0; i-- {
			set := k[i/64]>>(i%64)%2 == 1
			begun = begun || set
			if begun && !yield(set) {
				return
			}
		}
	}
}

// twice answers x added to itself.
func (g *group[E]) twice(x E) E { return g.field.Add(x, x) }

// double answers s added to itself. Where z or y is 0, z comes to 0: infinity.
func (g *group[E]) double(s scaled[E]) scaled[E] {
	f := g.field
	square := f.Mul(s.y, s.y)
	middle := g.twice(g.twice(f.Mul(s.x, square)))
	slope := f.Mul(s.x, s.x)
	slope = f.Add(slope, g.twice(slope))
	x := f.Sub(f.Mul(slope, slope), g.twice(middle))
	y := f.Sub(f.Mul(slope, f.Sub(middle, x)), g.twice(g.twice(g.twice(f.Mul(square, square)))))
	return scaled[E]{place[E]{x, y}, g.twice(f.Mul(s.y, s.z))}
}

// plus answers s and q, added.
func (g *group[E]) plus(s scaled[E], q place[E]) scaled[E] {
	if s.z == g.zero {
		return scaled[E]{q, g.one}
	}
	f := g.field
	square := f.Mul(s.z, s.z)
	// Over s's z the two places are those of one and the same point just if they are the same.
	q = place[E]{f.Mul(q.x, square), f.Mul(q.y, f.Mul(square, s.z))}
	if q == s.place {
		return g.double(s)
	}
	// Of a point and its negative across is 0, so that z comes to 0, as infinity's is.
	across, up := f.Sub(q.x, s.x), f.Sub(q.y, s.y)
	square = f.Mul(across, across)
	cube, middle := f.Mul(square, across), f.Mul(s.x, square)
	x := f.Sub(f.Sub(f.Mul(up, up), cube), g.twice(middle))
	y := f.Sub(f.Mul(up, f.Sub(middle, x)), f.Mul(s.y, cube))
	return scaled[E]{place[E]{x, y}, f.Mul(s.z, across)}
}
