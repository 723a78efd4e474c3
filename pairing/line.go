package pairing

import "cairn/api"

// place is a point of E2 other than infinity, of Fp2's elements.
type place[L api.Limbs] struct{ x, y fp2[L] }

// scaled is a point as a place x, y and a z: it stands for x / z^2 and y / z^3. Sums of scaled points need no division. In Miller's loop
// none of them is at infinity, and no two that are added are the same or each other's negatives: Q is of the order r, a prime, and the two
// are multiples of Q by numbers that are neither 0 nor alike, nor each other's negatives, modulo r.
type scaled[L api.Limbs] struct {
	place[L]
	z fp2[L]
}

// line is a straight line: byY y + byX x + rest is 0 on it. It is taken times any number of Fp2 but 0, as the last power of such a
// number is 1.
type line[L api.Limbs] struct{ byY, byX, rest fp2[L] }

// doubled answers s added to itself, and the tangent at s.
func (t *tower[L]) doubled(s scaled[L]) (scaled[L], line[L]) {
	square, squareZ := t.mul2(s.y, s.y), t.mul2(s.z, s.z)
	middle := t.twice2(t.twice2(t.mul2(s.x, square)))
	slope := t.mul2(s.x, s.x)
	slope = t.add2(slope, t.twice2(slope))
	x := t.sub2(t.mul2(slope, slope), t.twice2(middle))
	y := t.sub2(t.mul2(slope, t.sub2(middle, x)), t.twice2(t.twice2(t.twice2(t.mul2(square, square)))))
	z := t.twice2(t.mul2(s.y, s.z))
	return scaled[L]{place[L]{x, y}, z}, line[L]{
		byY:  t.mul2(z, squareZ),
		byX:  t.neg2(t.mul2(slope, squareZ)),
		rest: t.sub2(t.mul2(slope, s.x), t.twice2(square)),
	}
}

// added answers s and q, added, and the line through them.
func (t *tower[L]) added(s scaled[L], q place[L]) (scaled[L], line[L]) {
	squareZ := t.mul2(s.z, s.z)
	across := t.sub2(t.mul2(q.x, squareZ), s.x)
	up := t.sub2(t.mul2(q.y, t.mul2(squareZ, s.z)), s.y)
	square := t.mul2(across, across)
	cube, middle := t.mul2(square, across), t.mul2(s.x, square)
	x := t.sub2(t.sub2(t.mul2(up, up), cube), t.twice2(middle))
	y := t.sub2(t.mul2(up, t.sub2(middle, x)), t.mul2(s.y, cube))
	z := t.mul2(s.z, across)
	return scaled[L]{place[L]{x, y}, z}, line[L]{
		byY:  z,
		byX:  t.neg2(up),
		rest: t.sub2(t.mul2(up, q.x), t.mul2(z, q.y)),
	}
}

// image answers Frobenius' image of q, where x, y of E2 stands for x w^2, y w^3.
func (t *tower[L]) image(q place[L]) place[L] {
	var f fp12[L]
	f[0][1], f[1][1] = q.x, q.y
	f = t.frobenius(f)
	return place[L]{f[0][1], f[1][1]}
}
