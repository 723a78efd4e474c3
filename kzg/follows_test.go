package kzg_test

import (
	"math/big"
	"testing"

	"cairn/api"
	"cairn/kzg"
)

// wantLine holds against a + b X that just the value a + b z is proved at z.
func wantLine(t *testing.T, a, b, z *big.Int) {
	t.Helper()
	c, proof, y := line(a, b), first(b), onLine(a, b, z)
	if isNought := b.Sign() == 0; proof.Inf != isNought {
		t.Fatal(b, proof)
	}
	wantProven(t, "a line", true, c, proof, z, y)
	wantProven(t, "the value behind it", false, c, proof, z, sum(y, whole(1)))
	wantProven(t, "the value ahead of it", false, c, proof, z, sum(y, whole(-1)))
}

// P9.6: lines at the edges.
func TestLines(t *testing.T) {
	t.Parallel()
	for _, a := range edgesBelow() {
		t.Run(a.String(), func(t *testing.T) {
			t.Parallel()
			for _, b := range edgesBelow() {
				for _, z := range edgesBelow() {
					wantLine(t, a, b, z)
				}
			}
		})
	}
}

// P9.6: lines by chance, the proofs of other lines, and those of other places.
func TestLinesByChance(t *testing.T) {
	t.Parallel()
	f := source{at: 4}
	for range 8 {
		a, b, z := f.scalar(), f.scalar(), f.scalar()
		wantLine(t, a, b, z)
		c, y := line(a, b), onLine(a, b, z)
		wantProven(t, "another value", false, c, first(b), z, f.scalar())
		wantProven(t, "another place", false, c, first(b), f.scalar(), y)
		wantProven(t, "another proof", false, c, first(f.scalar()), z, y)
		wantProven(t, "the proof of a + (b + 1) X", false, c, first(sum(b, whole(1))), z, y)
		wantProven(t, "a proof with tau", false, c, line(f.scalar(), whole(1)), z, y)
		wantProven(t, "no proof", false, c, infinity(), z, y)
	}
}

// P9.6: a line that is 0 at z, so that it is all that its proof stands for.
func TestLineAtItsNought(t *testing.T) {
	t.Parallel()
	for _, z := range edgesBelow() {
		for _, b := range edgesBelow() {
			a := mod(new(big.Int).Neg(product(b, z)))
			wantProven(t, "0 there", true, line(a, b), first(b), z, whole(0))
			wantLine(t, a, b, z)
		}
	}
}

// proved is a commitment, what proves it, where and to which value.
type proved struct {
	c, proof point
	z, y     *big.Int
}

// sumOf are two, put together.
func sumOf(p, q proved) proved {
	return proved{c: add(p.c, q.c), proof: add(p.proof, q.proof), z: p.z, y: sum(p.y, q.y)}
}

func wantProved(t *testing.T, name string, p proved) {
	t.Helper()
	wantProven(t, name, true, p.c, p.proof, p.z, p.y)
	wantProven(t, name+" and 1", false, p.c, p.proof, p.z, sum(p.y, whole(1)))
}

// P9.7: sums of whatever is proved at one place: of lines, of infinity, of a polynomial of which only a proof is known.
func TestSums(t *testing.T) {
	t.Parallel()
	k := knownProof()
	f := source{at: 5}
	l := []proved{k, {infinity(), infinity(), k.z, whole(0)}, {neg(k.c), neg(k.proof), k.z, mod(new(big.Int).Neg(k.y))}}
	for _, x := range [][2]*big.Int{{whole(1), whole(0)}, {plus(order(), -1), whole(1)}, {f.scalar(), f.scalar()}} {
		l = append(l, proved{line(x[0], x[1]), first(x[1]), k.z, onLine(x[0], x[1], k.z)})
	}
	for i, p := range l {
		wantProved(t, "one", p)
		for _, q := range l[i:] {
			wantProved(t, "the sum", sumOf(p, q))
			if both := sumOf(p, q); p.proof != infinity() && q.proof != infinity() {
				wantProven(t, "the first proof", false, both.c, p.proof, both.z, both.y)
				wantProven(t, "the second proof", false, both.c, q.proof, both.z, both.y)
			}
		}
	}
}

// P9.7: a sum of two values that is r, and those beside it.
func TestSumsAtR(t *testing.T) {
	for _, d := range []int64{-1, 0, 1} {
		p := proved{first(whole(7)), infinity(), whole(3), whole(7)}
		n := plus(order(), d-7)
		q := proved{first(n), infinity(), whole(3), n}
		wantProved(t, "about r", sumOf(p, q))
		if should := mod(whole(d)); sumOf(p, q).y.Cmp(should) != 0 {
			t.Error(d)
		}
	}
}

// P9.7: a proof of another place doesn't belong to the sum.
func TestSumsOfTwoPlaces(t *testing.T) {
	a, b := whole(5), whole(6)
	p := proved{line(a, b), first(b), whole(2), whole(17)}
	q := proved{line(a, b), first(b), whole(3), whole(23)}
	wantProved(t, "at 2", p)
	wantProved(t, "at 3", q)
	both := sumOf(p, q)
	wantProven(t, "of two places", false, both.c, both.proof, whole(2), both.y)
	wantProven(t, "of two places", false, both.c, both.proof, whole(3), both.y)
}

// takes tells how many of the numbers are a value that is proved.
func takes(t *testing.T, p proved, l []*big.Int) int {
	t.Helper()
	n := 0
	for _, y := range l {
		is, e := kzg.Proven(p.c, p.proof, word(p.z), word(y))
		if e != api.OK {
			t.Fatal(e)
		}
		if is {
			n++
		}
	}
	return n
}

// P9.8: of many values just the right one, and none if it isn't among them or if the proof is of something else.
func TestOneValue(t *testing.T) {
	t.Parallel()
	var l []*big.Int
	for n := range int64(16) {
		l = append(l, whole(n), plus(order(), -1-n))
	}
	for _, x := range []struct {
		a, b, z int64
		n       int
	}{{2, 3, 4, 1}, {0, 0, 9, 1}, {15, 0, 1, 1}, {-1, 1, 0, 1}, {-16, -1, 0, 1}, {3, -1, 5, 1}, {16, 0, 1, 0}, {10, 5, 4, 0}} {
		a, b, z := mod(whole(x.a)), mod(whole(x.b)), mod(whole(x.z))
		p := proved{line(a, b), first(b), z, onLine(a, b, z)}
		if n := takes(t, p, l); n != x.n {
			t.Errorf("%v: %d values", x, n)
		}
		p.proof = first(sum(b, whole(1)))
		if n := takes(t, p, l); n != 0 {
			t.Errorf("%v, with another proof: %d values", x, n)
		}
	}
}

// P9.8: neither the value and r, once or twice, nor the value with another bit is taken beside it.
func TestNoOtherValue(t *testing.T) {
	t.Parallel()
	k := knownProof()
	wantProved(t, "known", k)
	wantProvenError(t, "and r", api.ErrScalar, k.c, k.proof, k.z, new(big.Int).Add(k.y, order()))
	wantProvenError(t, "1 and 2 r", api.ErrScalar, base(), infinity(), k.z, plus(new(big.Int).Lsh(order(), 1), 1))
	for n := range uint(256) {
		y := new(big.Int).Xor(k.y, power(n, 0))
		if !isScalar(y) {
			wantProvenError(t, "another bit", api.ErrScalar, k.c, k.proof, k.z, y)
			continue
		}
		if is, e := kzg.Proven(k.c, k.proof, word(k.z), word(y)); is || e != api.OK {
			t.Fatal(n, is, e)
		}
	}
}
