package pairing

import "cairn/api"

// lastPower answers f to the power (p^12 - 1) / r, or to a multiple of that which comes to 1 no more often. With p^12 - 1 taken as
// (p^6 - 1)(p^2 + 1)(p^4 - p^2 + 1) the powers to the first two factors are had nearly for nothing.
func lastPower[L api.Limbs](t *tower[L], l []stride, f fp12[L]) fp12[L] {
	f = t.mul12(t.turn12(f), t.inv12(f))
	f = t.mul12(t.frobenius(t.frobenius(f)), f)
	products := [4]fp12[L]{t.one12(), t.one12(), t.one12(), t.one12()}
	for _, s := range l {
		f = t.power(f, s.step)
		for i, n := range s.counts {
			products[i] = t.timesPower(products[i], f, n)
		}
	}
	y := products[3]
	for i := 2; i >= 0; i-- {
		y = t.mul12(t.frobenius(y), products[i])
	}
	return y
}

// timesPower answers y times f to the power n, a small number that may be below 0. To the power p^6 + 1 f must be 1: its inverse is then
// what turn12 answers.
func (t *tower[L]) timesPower(y, f fp12[L], n int) fp12[L] {
	if n < 0 {
		f, n = t.turn12(f), -n
	}
	for range n {
		y = t.mul12(y, f)
	}
	return y
}
