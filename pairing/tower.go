package pairing

import (
	"cairn/api"
	"cairn/field"
)

// fp2 is x0 + x1 u of Fp2; its parts are elements of a ring.
type fp2[L api.Limbs] [2]L

// fp6 is x0 + x1 v + x2 v^2 of Fp6.
type fp6[L api.Limbs] [3]fp2[L]

// tower reckons in Fp2, Fp6 and Fp12, each a floor above the one ahead of it: u u = -1, v v v = shift + u, w w = v.
type tower[L api.Limbs] struct {
	ring  *field.Ring[L]
	one   L
	shift L
	turn  fp2[L] // w^(p - 1)
	spots [3]int // at which powers of w the parts of a line stand
}

func newTower[L api.Limbs](n terms[L]) *tower[L] {
	// The primes are odd and not below 3: no error comes of it.
	ring, _ := field.Make(n.prime)
	t := &tower[L]{ring: ring, one: ring.In(small[L](1)), shift: ring.In(small[L](n.shift)), spots: n.spots}
	t.turn = t.in2(n.turn)
	return t
}

// small answers n as a number of the width.
func small[L api.Limbs](n uint64) L {
	var a L
	a[0] = n
	return a
}

// in2 answers the element of Fp2 that stands for a coordinate of E2.
func (t *tower[L]) in2(a [2]L) fp2[L] { return fp2[L]{t.ring.In(a[0]), t.ring.In(a[1])} }

func (t *tower[L]) add2(x, y fp2[L]) fp2[L] {
	return fp2[L]{t.ring.Add(x[0], y[0]), t.ring.Add(x[1], y[1])}
}

func (t *tower[L]) twice2(x fp2[L]) fp2[L] { return t.add2(x, x) }

func (t *tower[L]) sub2(x, y fp2[L]) fp2[L] {
	return fp2[L]{t.ring.Sub(x[0], y[0]), t.ring.Sub(x[1], y[1])}
}

func (t *tower[L]) neg2(x fp2[L]) fp2[L] { return fp2[L]{t.ring.Neg(x[0]), t.ring.Neg(x[1])} }

// mul2 takes x0 y1 + x1 y0 out of the product of the sums, as products are far dearer than sums.
func (t *tower[L]) mul2(x, y fp2[L]) fp2[L] {
	r := t.ring
	first, last := r.Mul(x[0], y[0]), r.Mul(x[1], y[1])
	all := r.Mul(r.Add(x[0], x[1]), r.Add(y[0], y[1]))
	return fp2[L]{r.Sub(first, last), r.Sub(r.Sub(all, first), last)}
}

// scale2 answers x times a, of the prime field.
func (t *tower[L]) scale2(x fp2[L], a L) fp2[L] {
	return fp2[L]{t.ring.Mul(x[0], a), t.ring.Mul(x[1], a)}
}

// lift2 answers x times shift + u, which v v v is.
func (t *tower[L]) lift2(x fp2[L]) fp2[L] {
	shifted := t.scale2(x, t.shift)
	return fp2[L]{t.ring.Sub(shifted[0], x[1]), t.ring.Add(shifted[1], x[0])}
}

// turn2 answers x0 - x1 u, which x to the power p is.
func (t *tower[L]) turn2(x fp2[L]) fp2[L] { return fp2[L]{x[0], t.ring.Neg(x[1])} }

// inv2 goes by (x0 + x1 u)(x0 - x1 u) = x0^2 + x1^2.
func (t *tower[L]) inv2(x fp2[L]) fp2[L] {
	r := t.ring
	over := r.Inv(r.Add(r.Mul(x[0], x[0]), r.Mul(x[1], x[1])))
	return t.scale2(t.turn2(x), over)
}

func (t *tower[L]) add6(x, y fp6[L]) fp6[L] {
	return fp6[L]{t.add2(x[0], y[0]), t.add2(x[1], y[1]), t.add2(x[2], y[2])}
}

func (t *tower[L]) sub6(x, y fp6[L]) fp6[L] {
	return fp6[L]{t.sub2(x[0], y[0]), t.sub2(x[1], y[1]), t.sub2(x[2], y[2])}
}

func (t *tower[L]) neg6(x fp6[L]) fp6[L] { return fp6[L]{t.neg2(x[0]), t.neg2(x[1]), t.neg2(x[2])} }

// mul6 takes the products of unlike parts out of those of sums, as mul2 does.
func (t *tower[L]) mul6(x, y fp6[L]) fp6[L] {
	like := fp6[L]{t.mul2(x[0], y[0]), t.mul2(x[1], y[1]), t.mul2(x[2], y[2])}
	unlike := func(i, j int) fp2[L] {
		all := t.mul2(t.add2(x[i], x[j]), t.add2(y[i], y[j]))
		return t.sub2(all, t.add2(like[i], like[j]))
	}
	return fp6[L]{
		t.add2(like[0], t.lift2(unlike(1, 2))),
		t.add2(unlike(0, 1), t.lift2(like[2])),
		t.add2(unlike(0, 2), like[1]),
	}
}

// lift6 answers x times v, which w w is.
func (t *tower[L]) lift6(x fp6[L]) fp6[L] { return fp6[L]{t.lift2(x[2]), x[0], x[1]} }

// inv6 goes by a y for which x y lies in Fp2.
func (t *tower[L]) inv6(x fp6[L]) fp6[L] {
	y := fp6[L]{
		t.sub2(t.mul2(x[0], x[0]), t.lift2(t.mul2(x[1], x[2]))),
		t.sub2(t.lift2(t.mul2(x[2], x[2])), t.mul2(x[0], x[1])),
		t.sub2(t.mul2(x[1], x[1]), t.mul2(x[0], x[2])),
	}
	product := t.add2(t.mul2(x[2], y[1]), t.mul2(x[1], y[2]))
	over := t.inv2(t.add2(t.mul2(x[0], y[0]), t.lift2(product)))
	return fp6[L]{t.mul2(y[0], over), t.mul2(y[1], over), t.mul2(y[2], over)}
}
