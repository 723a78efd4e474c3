package pairing

import (
	"iter"

	"cairn/api"
)

// fp12 is x0 + x1 w of Fp12. As v is w^2, it is also a sum of six parts of Fp2 times w^i; that of w^i stands at i%2, i/2.
type fp12[L api.Limbs] [2]fp6[L]

func (t *tower[L]) one12() fp12[L] {
	var x fp12[L]
	x[0][0][0] = t.one
	return x
}

// mul12 takes x0 y1 + x1 y0 out of the product of the sums, as mul2 does.
func (t *tower[L]) mul12(x, y fp12[L]) fp12[L] {
	first, last := t.mul6(x[0], y[0]), t.mul6(x[1], y[1])
	all := t.mul6(t.add6(x[0], x[1]), t.add6(y[0], y[1]))
	return fp12[L]{t.add6(first, t.lift6(last)), t.sub6(all, t.add6(first, last))}
}

// square12 answers x times x, by one product less than mul12: x0^2 + v x1^2 is (x0 + x1)(x0 + v x1), less x0 x1 and v times that.
func (t *tower[L]) square12(x fp12[L]) fp12[L] {
	product := t.mul6(x[0], x[1])
	all := t.mul6(t.add6(x[0], x[1]), t.add6(x[0], t.lift6(x[1])))
	return fp12[L]{t.sub6(all, t.add6(product, t.lift6(product))), t.add6(product, product)}
}

// turn12 answers x0 - x1 w, which x to the power p^6 is.
func (t *tower[L]) turn12(x fp12[L]) fp12[L] { return fp12[L]{x[0], t.neg6(x[1])} }

// inv12 goes by (x0 + x1 w)(x0 - x1 w) = x0^2 - v x1^2.
func (t *tower[L]) inv12(x fp12[L]) fp12[L] {
	over := t.inv6(t.sub6(t.mul6(x[0], x[0]), t.lift6(t.mul6(x[1], x[1]))))
	return fp12[L]{t.mul6(x[0], over), t.neg6(t.mul6(x[1], over))}
}

// frobenius answers x to the power p, which goes part by part: w^i to the power p is w^i times the power i of turn.
func (t *tower[L]) frobenius(x fp12[L]) fp12[L] {
	turn := fp2[L]{t.one}
	for i := range 6 {
		x[i%2][i/2] = t.mul2(t.turn2(x[i%2][i/2]), turn)
		turn = t.mul2(turn, t.turn)
	}
	return x
}

// power answers x to the power n, for n that is not 0.
func (t *tower[L]) power(x fp12[L], n [2]uint64) fp12[L] {
	y := x
	for set := range lowerBits(n) {
		y = t.square12(y)
		if set {
			y = t.mul12(y, x)
		}
	}
	return y
}

// lowerBits tells the bits of n below the highest one that is set, the highest first.
func lowerBits(n [2]uint64) iter.Seq[bool] {
	return func(yield func(set bool) bool) {
		begun := false
		for i := 64*len(n) - 1; i >= 0; i-- {
			set := n[i/64]>>(i%64)%2 == 1
			if begun && !yield(set) {
				return
			}
			begun = begun || set
		}
	}
}
