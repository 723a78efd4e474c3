package pairing

import (
	"math/big"
	"slices"
	"testing"

	"cairn/api"
	"cairn/field"
)

// unit is u^a w^i.
func unit[L api.Limbs](t *tower[L], a, i int) fp12[L] {
	var x fp12[L]
	x[i%2][i/2][a] = t.one
	return x
}

// ruled is u^a w^i by the tower's rules: w^6 is shift + u, u u is -1.
func ruled[L api.Limbs](t *tower[L], a, i int) fp12[L] {
	part := fp2[L]{t.one}
	if i >= 6 {
		part, i = fp2[L]{t.shift, t.one}, i-6
	}
	for range a {
		part = fp2[L]{t.ring.Neg(part[1]), part[0]}
	}
	var x fp12[L]
	x[i%2][i/2] = part
	return x
}

// samples are elements of Fp12: such with one part alone, all ones, and some by chance.
func samples[L api.Limbs](t *tower[L]) []fp12[L] {
	l := []fp12[L]{t.one12(), unit(t, 1, 5), unit(t, 0, 3)}
	at := uint64(5)
	for range 4 {
		var x fp12[L]
		for i := range 12 {
			var a L
			for j := range len(a) {
				at = at*6364136223846793005 + 1442695040888963407
				a[j] = at ^ at>>29
			}
			x[i%2][i/4][i/2%2] = t.ring.In(a)
		}
		l = append(l, x)
	}
	return l
}

// add12 is x + y.
func add12[L api.Limbs](t *tower[L], x, y fp12[L]) fp12[L] {
	return fp12[L]{t.add6(x[0], y[0]), t.add6(x[1], y[1])}
}

// Products in Fp12 go by the rules that the chapter names, and distribute over sums.
func TestProducts(t *testing.T) {
	products(t, newTower(bnTerms()))
	products(t, newTower(blsTerms()))
}

func products[L api.Limbs](t *testing.T, tw *tower[L]) {
	for a := range 12 {
		for b := range 12 {
			x, y := unit(tw, a%2, a/2), unit(tw, b%2, b/2)
			if got := tw.mul12(x, y); got != ruled(tw, a%2+b%2, a/2+b/2) {
				t.Errorf("%d, %d: %x", a, b, got)
			}
		}
	}
	l := samples(tw)
	for _, x := range l {
		for _, y := range l {
			for _, z := range l {
				if tw.mul12(x, add12(tw, y, z)) != add12(tw, tw.mul12(x, y), tw.mul12(x, z)) {
					t.Fatal("a product of a sum")
				}
			}
			if tw.mul12(x, y) != tw.mul12(y, x) {
				t.Fatal("the product the other way round")
			}
		}
	}
}

// Squares, inverses and powers in Fp12 are what products come to.
func TestPowers(t *testing.T) {
	powers(t, newTower(bnTerms()))
	powers(t, newTower(blsTerms()))
}

func powers[L api.Limbs](t *testing.T, tw *tower[L]) {
	m := tw.ring.Modulus()
	var limbs []uint64
	for i := range len(m) {
		limbs = append(limbs, m[i])
	}
	p := whole(limbs...)
	for _, x := range samples(tw) {
		if tw.square12(x) != tw.mul12(x, x) {
			t.Error("square12")
		}
		if tw.mul12(x, tw.inv12(x)) != tw.one12() {
			t.Error("inv12")
		}
		image := x
		for range 6 {
			image = tw.frobenius(image)
		}
		if tw.frobenius(x) != slow(tw, x, p) || image != tw.turn12(x) {
			t.Error("frobenius, turn12")
		}
		for _, n := range [][2]uint64{{1}, {2}, {3}, {13}, {1 << 63}, {0, 1}, {5, 3}, {1<<64 - 1, 1<<64 - 1}} {
			if tw.power(x, n) != slow(tw, x, whole(n[:]...)) {
				t.Errorf("power: %d", n)
			}
		}
		// Of such elements turn12 is the inverse.
		y := tw.mul12(tw.turn12(x), tw.inv12(x))
		for n := range 5 {
			z := tw.timesPower(x, y, n)
			if z != tw.mul12(x, slow(tw, y, big.NewInt(int64(n)))) || tw.timesPower(z, y, -n) != x {
				t.Errorf("timesPower: %d", n)
			}
		}
	}
	if tw.inv12(fp12[L]{}) != (fp12[L]{}) {
		t.Error("inv12 of 0")
	}
}

// slow is x to the power e, from the least bit on.
func slow[L api.Limbs](t *tower[L], x fp12[L], e *big.Int) fp12[L] {
	y := t.one12()
	for i := range e.BitLen() {
		if e.Bit(i) == 1 {
			y = t.mul12(y, x)
		}
		x = t.mul12(x, x)
	}
	return y
}

// The last power of what lies in Fp6 or in the field of w^3 is 1, so that lines may be taken times it; of other things it is not, but r
// times that is.
func TestLastPower(t *testing.T) {
	lastPowers(t, bnTerms(), field.BnR())
	lastPowers(t, blsTerms(), field.BlsR())
}

func lastPowers[L api.Limbs](t *testing.T, n terms[L], r [4]uint64) {
	tw := newTower(n)
	one := tw.one12()
	for i, x := range samples(tw)[3:] {
		y := lastPower(tw, n.last, x)
		if y == one || slow(tw, y, whole(r[:]...)) != one {
			t.Errorf("%d: %x", i, y)
		}
		below := x
		below[1] = fp6[L]{}
		fourth := fp12[L]{{x[0][0]}, {1: x[1][1]}}
		if lastPower(tw, n.last, below) != one || lastPower(tw, n.last, fourth) != one {
			t.Errorf("%d: Fp6 or w^3", i)
		}
	}
}

// lowerBits tells what stands below the highest bit, and ends when it is told to.
func TestLowerBits(t *testing.T) {
	for _, x := range []struct {
		n    [2]uint64
		bits []bool
	}{
		{[2]uint64{}, nil},
		{[2]uint64{1}, nil},
		{[2]uint64{2}, []bool{false}},
		{[2]uint64{13}, []bool{true, false, true}},
		{[2]uint64{1 << 63, 1}, append([]bool{true}, make([]bool, 63)...)},
	} {
		if got := slices.Collect(lowerBits(x.n)); !slices.Equal(got, x.bits) {
			t.Errorf("%d: %v", x.n, got)
		}
	}
	for set := range lowerBits([2]uint64{6}) {
		if !set {
			t.Error("the highest bit is not told first")
		}
		break
	}
}
