package secp_test

import (
	"math/big"
	"testing"

	"cairn/api"
	"cairn/field"
	"cairn/secp"
)

// P6.1
func TestBase(t *testing.T) {
	g := api.Point{
		X: fromHex("79be667ef9dcbbac55a06295ce870b07029bfcdb2dce28d959f2815b16f81798"),
		Y: fromHex("483ada7726a3c4655da4fbfc0e1108a8fd17b448a68554199c47d08ffb10d4b8"),
	}
	if secp.Base() != g {
		t.Errorf("Base: %v", secp.Base())
	}
	p, e := secp.Mul(g, field.SecpN())
	wantPoint(t, "n times G", p, e, none())
}

// P6.1
func TestGood(t *testing.T) {
	for _, p := range points(30) {
		if !secp.Good(p) {
			t.Errorf("no point: %v", p)
		}
	}
	for name, p := range bad() {
		if modelGood(p) || secp.Good(p) {
			t.Errorf("a point: %s, %v", name, p)
		}
	}
}

// P6.1: a coordinate that is p more is another number, though the same modulo p; only a small one has room for it.
func TestGoodTakesNoGreaterNumbers(t *testing.T) {
	for x := range uint64(50) {
		p, ok := modelLift(api.Word{x}, 0)
		if !ok {
			continue
		}
		if !secp.Good(p) {
			t.Errorf("no point: %v", p)
		}
		p.X = plus(field.SecpP(), int64(x))
		if secp.Good(p) {
			t.Errorf("a point: %v", p)
		}
	}
	// The same of Y: X^3 = Y^2 - 7 has a root for some small Y. p is 7 modulo 9, so that the root of a cube is its power (p + 2) / 9.
	found, m := 0, modP()
	for y := range int64(50) {
		cube := big.NewInt(y*y - 7)
		x := new(big.Int).Add(m, big.NewInt(2))
		x.Exp(cube.Mod(cube, m), x.Div(x, big.NewInt(9)), m)
		p := api.Point{X: of(x), Y: of(big.NewInt(y))}
		if !modelGood(p) {
			continue
		}
		found++
		if !secp.Good(p) {
			t.Errorf("no point: %v", p)
		}
		p.Y = plus(field.SecpP(), y)
		if secp.Good(p) {
			t.Errorf("a point: %v", p)
		}
	}
	if found == 0 {
		t.Error("no point has a small Y")
	}
}

// P6.2
func TestNeg(t *testing.T) {
	for _, p := range points(30) {
		q, e := secp.Neg(p)
		wantPoint(t, "Neg", q, e, modelNeg(p), p)
	}
}

// P6.2: each point to each: itself, its negative and Inf are among them.
func TestAdd(t *testing.T) {
	l := points(10)
	for _, p := range l {
		for _, q := range l {
			s, e := secp.Add(p, q)
			wantPoint(t, "Add", s, e, modelAdd(p, q), p, q)
		}
	}
}

// P6.2: the edges by themselves.
func TestAddAtEdges(t *testing.T) {
	g := secp.Base()
	minus, _ := secp.Neg(g)
	for name, x := range map[string]struct{ p, q, sum api.Point }{
		"Inf and Inf":   {none(), none(), none()},
		"Inf and G":     {none(), g, g},
		"G and Inf":     {g, none(), g},
		"G and -G":      {g, minus, none()},
		"-G and G":      {minus, g, none()},
		"G and G":       {g, g, two()},
		"2G and -G":     {two(), minus, g},
		"-G and itself": {minus, minus, modelNeg(two())},
	} {
		s, e := secp.Add(x.p, x.q)
		wantPoint(t, name, s, e, x.sum)
	}
}

// two is 2 G, as other programs know it.
func two() api.Point {
	return api.Point{
		X: fromHex("c6047f9441ed7d6d3045406e95c07cd85c778e4b8cef3ca7abac09b95c709ee5"),
		Y: fromHex("1ae168fea63dc339a3c58419466ceaeef7f632653266d0e1236431a950cfe52a"),
	}
}

// factors are those of the chapter's edges, and n by chance.
func factors(n int) []api.Word {
	l := []api.Word{{}, {1}, {2}, {3}, {0, 1}, {0, 0, 1}, {0, 0, 0, 1}, {0, 0, 0, 1 << 63}, top(), plus(top(), -1)}
	for d := int64(-4); d <= 4; d++ {
		l = append(l, plus(field.SecpN(), d), plus(half(), d), plus(field.SecpP(), d))
	}
	s := source{at: 7}
	for range n {
		l = append(l, s.word())
	}
	return l
}

// P6.2
func TestMul(t *testing.T) {
	s := source{at: 9}
	for _, p := range []api.Point{none(), secp.Base(), modelNeg(secp.Base()), s.point(), s.point()} {
		for _, k := range factors(30) {
			q, e := secp.Mul(p, k)
			wantPoint(t, "Mul", q, e, modelMul(p, number(k)), p, k)
		}
	}
}

// P6.2: k times a point is itself, added k times.
func TestMulIsAdding(t *testing.T) {
	s := source{at: 13}
	for _, p := range []api.Point{none(), secp.Base(), s.point()} {
		sum := none()
		for k := range uint64(70) {
			q, e := secp.Mul(p, api.Word{k})
			wantPoint(t, "Mul", q, e, sum, p, k)
			sum, _ = secp.Add(sum, p)
		}
	}
}

// P6.2: the edges by themselves.
func TestMulAtEdges(t *testing.T) {
	s := source{at: 15}
	for _, p := range []api.Point{secp.Base(), s.point(), s.point()} {
		n := field.SecpN()
		for _, x := range []struct {
			k      api.Word
			should api.Point
		}{
			{api.Word{}, none()}, {api.Word{1}, p}, {api.Word{2}, modelAdd(p, p)}, {plus(n, -1), modelNeg(p)}, {n, none()}, {plus(n, 1), p},
			{plus(n, 2), modelAdd(p, p)}, {top(), modelMul(p, new(big.Int).Sub(number(top()), modN()))},
		} {
			q, e := secp.Mul(p, x.k)
			wantPoint(t, "Mul", q, e, x.should, p, x.k)
			q, e = secp.Mul(none(), x.k)
			wantPoint(t, "Mul", q, e, none(), x.k)
		}
	}
}

// P6.2: what is no point.
func TestNoPoints(t *testing.T) {
	g := secp.Base()
	for name, p := range bad() {
		q, e := secp.Neg(p)
		wantNoPoint(t, "Neg: "+name, q, e, api.ErrPoint)
		for _, r := range []api.Point{g, none(), p} {
			q, e = secp.Add(p, r)
			wantNoPoint(t, "Add: "+name, q, e, api.ErrPoint)
			q, e = secp.Add(r, p)
			wantNoPoint(t, "Add: "+name, q, e, api.ErrPoint)
		}
		for _, k := range []api.Word{{}, {1}, {2}, field.SecpN(), top()} {
			q, e = secp.Mul(p, k)
			wantNoPoint(t, "Mul: "+name, q, e, api.ErrPoint, k)
		}
	}
}
