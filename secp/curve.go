package secp

import (
	"iter"

	"cairn/api"
	"cairn/field"
	"cairn/word"
)

// element is one of the curve's field, or of the ring modulo n.
type element = [4]uint64

// place is a point other than Inf, of the field's elements.
type place struct{ x, y element }

// scaled is a point as a place x, y and a z: it stands for x / z^2 and y / z^3, and for Inf where z is 0. Sums of scaled points need
// no division, which is by far the dearest thing to reckon.
type scaled struct {
	place
	z element
}

// curve is the field of p, in which points are reckoned with.
type curve struct {
	field *field.Ring[element]
	one   element
}

func newCurve() *curve {
	// SecpP is odd and not below 3: no error comes of it.
	f, _ := field.Make(field.SecpP())
	return &curve{field: f, one: f.In(element{1})}
}

// infinity is the neutral point.
func infinity() api.Point { return api.Point{Inf: true} }

// has tells whether p is a point of the curve.
func (c *curve) has(p api.Point) bool {
	if p.Inf {
		return p == infinity()
	}
	if !isBelow(p.X, field.SecpP()) || !isBelow(p.Y, field.SecpP()) {
		return false
	}
	q := c.in(p)
	return c.square(q.y) == c.squareOfY(q.x)
}

// isBelow tells whether x is below y.
func isBelow(x, y api.Word) bool { return word.Cmp(x, y) < 0 }

// in answers the place of a point other than Inf.
func (c *curve) in(p api.Point) place { return place{c.field.In(p.X), c.field.In(p.Y)} }

// out answers the point that s stands for.
func (c *curve) out(s scaled) api.Point {
	if s.z == (element{}) {
		return infinity()
	}
	f := c.field
	over := f.Inv(s.z)
	square := c.square(over)
	return api.Point{X: f.Out(f.Mul(s.x, square)), Y: f.Out(f.Mul(s.y, f.Mul(square, over)))}
}

// squareOfY answers Y^2 of the points whose X is x.
func (c *curve) squareOfY(x element) element {
	return c.field.Add(c.field.Mul(c.square(x), x), c.field.In(element{7}))
}

func (c *curve) square(x element) element { return c.field.Mul(x, x) }

func (c *curve) twice(x element) element { return c.field.Add(x, x) }

// negative answers the point that comes to Inf with p.
func (c *curve) negative(p api.Point) api.Point {
	if p.Inf {
		return p
	}
	return api.Point{X: p.X, Y: c.field.Out(c.field.Neg(c.field.In(p.Y)))}
}

// times answers k times p.
func (c *curve) times(p api.Point, k api.Word) api.Point { return c.sum(p, k, infinity(), api.Word{}) }

// sum answers j times p and k times q, added. Both are doubled as one.
func (c *curve) sum(p api.Point, j api.Word, q api.Point, k api.Word) api.Point {
	// Inf has no place, but any times Inf is what no times is.
	if p.Inf {
		j = api.Word{}
	}
	if q.Inf {
		k = api.Word{}
	}
	var s scaled
	first, second := c.in(p), c.in(q)
	for ofJ, ofK := range bits(j, k) {
		s = c.double(s)
		if ofJ {
			s = c.add(s, first)
		}
		if ofK {
			s = c.add(s, second)
		}
	}
	return c.out(s)
}

// bits tells the bits of two numbers side by side, the highest first, from the highest one that is set in either.
func bits(j, k api.Word) iter.Seq2[bool, bool] {
	return func(yield func(ofJ, ofK bool) bool) {
		for i := max(word.Bits(j), word.Bits(k)) - 1; i >= 0; i-- {
			if !yield(isSet(j, i), isSet(k, i)) {
				return
			}
		}
	}
}

// isSet tells whether bit i of x is 1, the least bit being number 0.
func isSet(x api.Word, i int) bool { return x[i/64]>>(i%64)%2 == 1 }

// double answers s added to itself. No point has Y = 0, so that only Inf comes to Inf: its z stays 0.
func (c *curve) double(s scaled) scaled {
	f := c.field
	square := c.square(s.y)
	middle := c.twice(c.twice(f.Mul(s.x, square)))
	slope := c.square(s.x)
	slope = f.Add(slope, c.twice(slope))
	x := f.Sub(c.square(slope), c.twice(middle))
	y := f.Sub(f.Mul(slope, f.Sub(middle, x)), c.twice(c.twice(c.twice(c.square(square)))))
	return scaled{place{x, y}, c.twice(f.Mul(s.y, s.z))}
}

// add answers s and q, added.
func (c *curve) add(s scaled, q place) scaled {
	if s.z == (element{}) {
		return scaled{q, c.one}
	}
	f := c.field
	square := c.square(s.z)
	// Over s's z the two places are those of one and the same point just if they are the same.
	q = place{f.Mul(q.x, square), f.Mul(q.y, f.Mul(square, s.z))}
	if q == s.place {
		return c.double(s)
	}
	// Of a point and its negative across is 0, so that z comes to 0, as Inf's is.
	across, up := f.Sub(q.x, s.x), f.Sub(q.y, s.y)
	square = c.square(across)
	cube, middle := f.Mul(square, across), f.Mul(s.x, square)
	x := f.Sub(f.Sub(c.square(up), cube), c.twice(middle))
	y := f.Sub(f.Mul(up, f.Sub(middle, x)), f.Mul(s.y, cube))
	return scaled{place{x, y}, f.Mul(s.z, across)}
}
