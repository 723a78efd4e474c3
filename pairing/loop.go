package pairing

import "cairn/api"

// walk is a pair on its way through Miller's loop: P, Q and the multiple of Q that the loop has come to.
type walk[L api.Limbs] struct {
	x, y L // of P
	q    place[L]
	at   scaled[L]
}

// walks answers those of all pairs but such with a point at infinity, whose pairing is 1.
func walks[L api.Limbs](t *tower[L], p []api.P1[L], q []api.P2[L]) []walk[L] {
	var l []walk[L]
	for i := range p {
		if p[i].Inf || q[i].Inf {
			continue
		}
		start := place[L]{t.in2(q[i].X), t.in2(q[i].Y)}
		l = append(l, walk[L]{
			x:  t.ring.In(p[i].X),
			y:  t.ring.In(p[i].Y),
			q:  start,
			at: scaled[L]{start, fp2[L]{t.one}},
		})
	}
	return l
}

// loop answers the product of all pairings but for the last power. The pairs go side by side, so that their product is squared but once
// for all of them.
func loop[L api.Limbs](t *tower[L], n terms[L], l []walk[L]) fp12[L] {
	f := t.one12()
	for set := range lowerBits(n.loop) {
		f = t.square12(f)
		for i := range l {
			f = t.mul12(f, t.double(&l[i]))
			if set {
				f = t.mul12(f, t.plus(&l[i], l[i].q))
			}
		}
	}
	if n.more {
		for i := range l {
			f = t.mul12(f, t.plusImages(&l[i]))
		}
	}
	return f
}

// double doubles the walk's multiple of Q, and answers what the line through it, a tangent, comes to at P.
func (t *tower[L]) double(w *walk[L]) fp12[L] {
	next, through := t.doubled(w.at)
	w.at = next
	return t.value(through, w)
}

// plus adds q to the walk's multiple of Q, and answers what the line through both comes to at P.
func (t *tower[L]) plus(w *walk[L], q place[L]) fp12[L] {
	next, through := t.added(w.at, q)
	w.at = next
	return t.value(through, w)
}

// plusImages adds Frobenius' image of Q, and then the negative of that one's image.
func (t *tower[L]) plusImages(w *walk[L]) fp12[L] {
	first := t.image(w.q)
	f := t.plus(w, first)
	second := t.image(first)
	second.y = t.neg2(second.y)
	return t.mul12(f, t.plus(w, second))
}

// value answers what a line comes to at the walk's P.
func (t *tower[L]) value(l line[L], w *walk[L]) fp12[L] {
	var f fp12[L]
	for i, part := range [3]fp2[L]{t.scale2(l.byY, w.y), t.scale2(l.byX, w.x), l.rest} {
		spot := t.spots[i]
		f[spot%2][spot/2] = part
	}
	return f
}
