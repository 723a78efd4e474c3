package secp_test

import (
	"math"
	"math/big"
	"testing"

	"cairn/api"
	"cairn/field"
	"cairn/secp"
)

// modelSign signs by the words of P6.4.
func modelSign(key api.Word, h api.Hash, nonce api.Word) (api.Signature, api.Errno) {
	if !isScalar(key) {
		return api.Signature{}, api.ErrSecret
	}
	if !isScalar(nonce) {
		return api.Signature{}, api.ErrSign
	}
	p := modelMul(secp.Base(), number(nonce))
	s := over(reckon(number(p.X), number(key), numberOf(h)), number(nonce))
	odd := int(p.Y[0] % 2)
	if !isScalar(p.X) || s.Sign() == 0 {
		return api.Signature{}, api.ErrSign
	}
	if s.Cmp(number(half())) > 0 {
		s, odd = less(s), 1-odd
	}
	return api.Signature{R: p.X, S: of(s), Odd: odd}, api.OK
}

// modelVerify tells by the words of P6.5.
func modelVerify(p api.Point, h api.Hash, r, s api.Word) bool {
	if !modelGood(p) || p.Inf || !isScalar(r) || !isScalar(s) {
		return false
	}
	e := numberOf(h)
	q := modelAdd(modelMul(secp.Base(), over(e, number(s))), modelMul(p, over(number(r), number(s))))
	return !q.Inf && number(r).Cmp(new(big.Int).Mod(number(q.X), modN())) == 0
}

// modelRecover finds the point by the words of P6.6.
func modelRecover(h api.Hash, g api.Signature) (api.Point, api.Errno) {
	q, ok := modelLift(g.R, g.Odd)
	if !ok || !isScalar(g.R) || !isScalar(g.S) {
		return api.Point{}, api.ErrSign
	}
	r := number(g.R)
	p := modelAdd(modelMul(q, over(number(g.S), r)), modelMul(modelNeg(secp.Base()), over(numberOf(h), r)))
	if p.Inf {
		return api.Point{}, api.ErrSign
	}
	return p, api.OK
}

// numbers are keys and nonces: those at the edges, which may be none, and n by chance.
func numbers(n int) []api.Word {
	l := []api.Word{{}, {1}, {2}, {42}, plus(field.SecpN(), -1), field.SecpN(), plus(field.SecpN(), 1), field.SecpP(), top()}
	s := source{at: 23}
	for range n {
		l = append(l, s.word())
	}
	return l
}

// hashes are those whose numbers are at the edges, and n by chance.
func hashes(n int) []api.Hash {
	var l []api.Hash
	for _, x := range numbers(n) {
		l = append(l, hashOf(x))
	}
	return append(l, hashOf(plus(top(), -1)), hashOf(half()), api.Hash{1, 2, 3}, api.Hash{31: 1, 30: 2})
}

// wantSignature holds Sign's answer against what it should be.
func wantSignature(t *testing.T, key api.Word, h api.Hash, nonce api.Word, should api.Signature, shouldE api.Errno) {
	t.Helper()
	if g, e := secp.Sign(key, h, nonce); g != should || e != shouldE {
		t.Fatalf("Sign(%x, %x, %x): %x, %d, not %x, %d", key, h, nonce, g, e, should, shouldE)
	}
}

// P6.4
func TestSign(t *testing.T) {
	s := source{at: 25}
	h := hashes(5)
	for _, key := range numbers(5) {
		for _, nonce := range numbers(5) {
			for range 2 {
				hash := h[s.next()%uint64(len(h))]
				g, e := modelSign(key, hash, nonce)
				wantSignature(t, key, hash, nonce, g, e)
			}
		}
	}
}

// P6.4: which keys and nonces may not be; a key's error comes first.
func TestSignRefuses(t *testing.T) {
	h := api.Hash{1}
	for _, bad := range []api.Word{{}, field.SecpN(), plus(field.SecpN(), 1), field.SecpP(), top()} {
		wantSignature(t, bad, h, api.Word{1}, api.Signature{}, api.ErrSecret)
		wantSignature(t, api.Word{1}, h, bad, api.Signature{}, api.ErrSign)
		wantSignature(t, bad, h, bad, api.Signature{}, api.ErrSecret)
	}
	for _, good := range []api.Word{{1}, plus(field.SecpN(), -1)} {
		if _, e := secp.Sign(good, h, good); e != api.OK {
			t.Errorf("Sign(%x): %d", good, e)
		}
	}
}

// hashFor is the hash of which key and nonce make s ahead of its being turned low: e = s nonce - r key.
func hashFor(key, nonce api.Word, s *big.Int) api.Hash {
	p := modelMul(secp.Base(), number(nonce))
	return hashOf(of(reckon(s, number(nonce), less(reckon(number(p.X), number(key), new(big.Int))))))
}

// P6.4: s that is 0, and s round n / 2 and n: up to n / 2 it stays, and so does Odd.
func TestSignAtEdges(t *testing.T) {
	f := source{at: 27}
	middle := number(half())
	for range 5 {
		key, nonce := f.scalar(), f.scalar()
		p := modelMul(secp.Base(), number(nonce))
		odd := int(p.Y[0] % 2)
		wantSignature(t, key, hashFor(key, nonce, new(big.Int)), nonce, api.Signature{}, api.ErrSign)
		for _, s := range []*big.Int{big.NewInt(1), big.NewInt(2), new(big.Int).Sub(middle, big.NewInt(1)), middle} {
			wantSignature(t, key, hashFor(key, nonce, s), nonce, api.Signature{R: p.X, S: of(s), Odd: odd}, api.OK)
			// n - s is above the middle: it is turned to s.
			high := new(big.Int).Sub(modN(), s)
			wantSignature(t, key, hashFor(key, nonce, high), nonce, api.Signature{R: p.X, S: of(s), Odd: 1 - odd}, api.OK)
		}
	}
}

// P6.4, P6.5, P6.6: a hash's number counts modulo n; its highest byte is the first.
func TestHashesModuloN(t *testing.T) {
	key, nonce := api.Word{42}, api.Word{77}
	p, _ := secp.Public(key)
	for _, d := range []int64{0, 1, 2, 1000} {
		small, great := hashOf(api.Word{uint64(d)}), hashOf(plus(field.SecpN(), d))
		g, e := secp.Sign(key, small, nonce)
		if e != api.OK {
			t.Fatal(d, e)
		}
		wantSignature(t, key, great, nonce, g, api.OK)
		for _, h := range []api.Hash{small, great} {
			if !secp.Verify(p, h, g.R, g.S) {
				t.Errorf("Verify of %x: false", h)
			}
			q, e := secp.Recover(h, g)
			wantPoint(t, "Recover", q, e, p, h)
		}
	}
	first, _ := secp.Sign(key, api.Hash{1}, nonce)
	last, _ := secp.Sign(key, api.Hash{31: 1}, nonce)
	one, _ := modelSign(key, hashOf(api.Word{1}), nonce)
	if last != one || first == one {
		t.Errorf("%x, %x, not %x", first, last, one)
	}
}

// P6.5: the words, held against signatures, whole and spoiled.
func TestVerify(t *testing.T) {
	f := source{at: 33}
	for range 10 {
		key, nonce, h := f.scalar(), f.scalar(), hashOf(f.word())
		p, _ := secp.Public(key)
		g, _ := secp.Sign(key, h, nonce)
		minus, _ := secp.Neg(p)
		for _, x := range []struct {
			p    api.Point
			h    api.Hash
			r, s api.Word
		}{
			{p, h, g.R, g.S}, {p, h, g.R, of(less(number(g.S)))}, {p, h, plus(g.R, 1), g.S}, {p, h, g.R, plus(g.S, 1)},
			{p, hashOf(f.word()), g.R, g.S}, {minus, h, g.R, g.S}, {f.point(), h, g.R, g.S}, {p, h, g.S, g.R},
			{f.point(), h, f.scalar(), f.scalar()}, {secp.Base(), h, f.word(), f.word()},
		} {
			if got, should := secp.Verify(x.p, x.h, x.r, x.s), modelVerify(x.p, x.h, x.r, x.s); got != should {
				t.Fatalf("Verify(%v, %x, %x, %x): %v", x.p, x.h, x.r, x.s, got)
			}
		}
		// A high S verifies as well as a low one: both sign.
		if !secp.Verify(p, h, g.R, g.S) || !secp.Verify(p, h, g.R, of(less(number(g.S)))) || secp.Verify(minus, h, g.R, g.S) {
			t.Fatalf("key %x, hash %x, nonce %x", key, h, nonce)
		}
	}
}

// P6.5: what is never true.
func TestVerifyRefuses(t *testing.T) {
	key, nonce, h := api.Word{42}, api.Word{77}, api.Hash{1, 2, 3}
	p, _ := secp.Public(key)
	g, _ := secp.Sign(key, h, nonce)
	if !secp.Verify(p, h, g.R, g.S) {
		t.Fatal("no signature")
	}
	l := bad()
	l["Inf"] = none()
	l["the point, but called Inf"] = api.Point{X: p.X, Y: p.Y, Inf: true}
	for name, q := range l {
		if secp.Verify(q, h, g.R, g.S) {
			t.Errorf("a signature by %s", name)
		}
	}
	for _, x := range []api.Word{{}, field.SecpN(), plus(field.SecpN(), 1), top()} {
		if secp.Verify(p, h, x, g.S) || secp.Verify(p, h, g.R, x) || secp.Verify(p, h, x, x) {
			t.Errorf("a signature with %x", x)
		}
	}
}

// forged is a hash, an R and an S that verify by p, whatever p is: with R = a G + b p they are a S, X of R, and X of R / b.
func forged(p api.Point, a, b api.Word) (h api.Hash, r, s api.Word) {
	q := modelAdd(modelMul(secp.Base(), number(a)), modelMul(p, number(b)))
	n := over(number(q.X), number(b))
	return hashOf(of(reckon(n, number(a), new(big.Int)))), q.X, of(n)
}

// P6.5: Inf, and numbers that are a point's only modulo p, are refused even where the sum would come to R.
func TestVerifyRefusesWhatWouldFit(t *testing.T) {
	one, _ := modelLift(api.Word{1}, 0)
	h, r, s := forged(one, api.Word{3}, api.Word{4})
	if !secp.Verify(one, h, r, s) {
		t.Fatal("no signature by the point of X = 1")
	}
	for _, p := range []api.Point{{X: plus(field.SecpP(), 1), Y: one.Y}, {X: one.X, Y: one.Y, Inf: true}} {
		if secp.Verify(p, h, r, s) {
			t.Errorf("a signature by %v", p)
		}
	}
	h, r, s = forged(none(), api.Word{3}, api.Word{4})
	if secp.Verify(none(), h, r, s) {
		t.Error("a signature by Inf")
	}
}

// P6.5: numbers that are the same modulo n, but are n or above, are none: only small ones have room for that.
func TestVerifyTakesNoGreaterNumbers(t *testing.T) {
	// X of R is the greater of the two, so R is X - n, a small number.
	x := highX()
	r := of(new(big.Int).Sub(number(x), modN()))
	for odd := range 2 {
		q, _ := modelLift(x, odd)
		for _, s := range []api.Word{{1}, {5}, half()} {
			h := hashOf(api.Word{99})
			p := signerOf(q, h, r, s)
			// X of q is above n, yet modulo n it is r.
			if !secp.Verify(p, h, r, s) {
				t.Errorf("Verify(%v, %x, %x, %x): false", p, h, r, s)
			}
			if secp.Verify(p, h, x, s) {
				t.Errorf("Verify(%v, %x, %x, %x): true", p, h, x, s)
			}
			if s[3] == 0 && secp.Verify(p, h, r, of(new(big.Int).Add(number(s), modN()))) {
				t.Errorf("Verify(%v, %x, %x, %x + n): true", p, h, r, s)
			}
		}
	}
}

// signerOf is that point p of which (e / s) G + (r / s) p is q.
func signerOf(q api.Point, h api.Hash, r, s api.Word) api.Point {
	e := numberOf(h)
	return modelAdd(modelMul(q, over(number(s), number(r))), modelMul(secp.Base(), less(over(e, number(r)))))
}

// P6.5: a sum that comes to Inf is no signature: e = -r key.
func TestVerifyOfInf(t *testing.T) {
	f := source{at: 35}
	for range 5 {
		key, r := f.scalar(), f.scalar()
		p, _ := secp.Public(key)
		h := hashOf(of(less(reckon(number(r), number(key), new(big.Int)))))
		for _, s := range []api.Word{{1}, f.scalar()} {
			if modelVerify(p, h, r, s) || secp.Verify(p, h, r, s) {
				t.Errorf("Verify(%v, %x, %x, %x): true", p, h, r, s)
			}
		}
	}
}

// P6.5: keys 1 and n - 1, whose points are G and -G: sums of a point with itself and with its negative.
func TestVerifyByBase(t *testing.T) {
	minus, _ := secp.Neg(secp.Base())
	for _, x := range []struct {
		key api.Word
		p   api.Point
	}{{api.Word{1}, secp.Base()}, {plus(field.SecpN(), -1), minus}, {api.Word{2}, two()}} {
		for nonce := uint64(1); nonce <= 6; nonce++ {
			for _, h := range hashes(2) {
				g, e := secp.Sign(x.key, h, api.Word{nonce})
				if e != api.OK || !secp.Verify(x.p, h, g.R, g.S) {
					t.Fatalf("key %x, nonce %d, hash %x: %x, %d", x.key, nonce, h, g, e)
				}
				p, e := secp.Recover(h, g)
				wantPoint(t, "Recover", p, e, x.p, x.key, nonce, h)
			}
		}
	}
}

// P6.6
func TestRecover(t *testing.T) {
	f := source{at: 37}
	for i := range 40 {
		h := hashOf(f.word())
		g := api.Signature{R: f.word(), S: f.word(), Odd: i % 2}
		if i%3 == 0 {
			g, _ = secp.Sign(f.scalar(), h, f.scalar())
		}
		p, e := secp.Recover(h, g)
		should, shouldE := modelRecover(h, g)
		if p != should || e != shouldE {
			t.Fatalf("Recover(%x, %x): %v, %d, not %v, %d", h, g, p, e, should, shouldE)
		}
	}
}

// wantNone holds Recover and Sender against ErrSign.
func wantNone(t *testing.T, h api.Hash, g api.Signature) {
	t.Helper()
	p, e := secp.Recover(h, g)
	wantNoPoint(t, "Recover", p, e, api.ErrSign, h, g)
	if a, e := secp.Sender(h, g); a != (api.Address{}) || e != api.ErrSign {
		t.Fatalf("Sender(%x, %x): %x, %d", h, g, a, e)
	}
}

// P6.6: what nobody signed.
func TestRecoverRefuses(t *testing.T) {
	h := api.Hash{1, 2, 3}
	good, _ := secp.Sign(api.Word{42}, h, api.Word{77})
	for _, odd := range []int{2, 3, -1, -2, 27, 28, 1 << 32, 1<<32 + 1, math.MinInt, math.MaxInt} {
		wantNone(t, h, api.Signature{R: good.R, S: good.S, Odd: odd})
	}
	for odd := range 2 {
		for _, x := range []api.Word{{}, field.SecpN(), plus(field.SecpN(), 1), highX(), field.SecpP(), plus(field.SecpP(), 1), top()} {
			wantNone(t, h, api.Signature{R: x, S: good.S, Odd: odd})
			wantNone(t, h, api.Signature{R: good.R, S: x, Odd: odd})
			wantNone(t, h, api.Signature{R: x, S: x, Odd: odd})
		}
		// No point has X = 5.
		wantNone(t, h, api.Signature{R: api.Word{5}, S: good.S, Odd: odd})
		wantNone(t, h, api.Signature{R: api.Word{5}, S: api.Word{1}, Odd: odd})
	}
}

// P6.6: the least and the greatest R and S that may be.
func TestRecoverAtEdges(t *testing.T) {
	for odd := range 2 {
		for _, h := range []api.Hash{{}, {1, 2, 3}, hashOf(field.SecpN()), hashOf(top())} {
			for _, s := range []api.Word{{1}, half(), plus(half(), 1), plus(field.SecpN(), -1)} {
				for _, r := range []api.Word{{1}, {2}, greatestR()} {
					g := api.Signature{R: r, S: s, Odd: odd}
					should, shouldE := modelRecover(h, g)
					p, e := secp.Recover(h, g)
					if p != should || e != shouldE || e != api.OK {
						t.Fatalf("Recover(%x, %x): %v, %d, not %v, %d", h, g, p, e, should, shouldE)
					}
				}
			}
		}
	}
}

// greatestR is the greatest number below n that a point has as its X.
func greatestR() api.Word {
	r := plus(field.SecpN(), -1)
	for {
		if _, ok := modelLift(r, 0); ok {
			return r
		}
		r = plus(r, -1)
	}
}

// P6.6: Recover comes to Inf where S Q = e G: with Q = k G, where e = S k. With the other Q it does not.
func TestRecoverOfInf(t *testing.T) {
	f := source{at: 39}
	for range 5 {
		k, s := f.scalar(), f.scalar()
		q, _ := secp.Public(k)
		h := hashOf(of(reckon(number(s), number(k), new(big.Int))))
		g := api.Signature{R: q.X, S: s, Odd: int(q.Y[0] % 2)}
		wantNone(t, h, g)
		g.Odd = 1 - g.Odd
		p, e := secp.Recover(h, g)
		should, _ := modelRecover(h, g)
		wantPoint(t, "Recover", p, e, should, h, g)
	}
}

// P6.6: senders that are known elsewhere: EIP-155's example, and one of the precompiled contract 1's.
func TestKnownSenders(t *testing.T) {
	for _, x := range []struct {
		hash, r, s string
		odd        int
		address    string
	}{
		{
			"daf5a779ae972f972197303d7b574746c7ef83eadac0f2791ad23db92e4c8e53",
			"28ef61340bd939bc2195fe537567866003e1a15d3c71ff63e1590620aa636276",
			"67cbe9d8997f761aecb703304b3800ccf555c9f3dc64214b297fb1966a3b6d83",
			0, "9d8a62f656a8d1615c1294fd71e9cfb3e4855a4f",
		},
		{
			"456e9aea5e197a1f1af7a3e85a3212fa4049a3ba34c2289b4c860fc0b0c64ef3",
			"9242685bf161793cc25603c231bc2f568eb630ea16aa137d2664ac8038825608",
			"4f8ae3bd7535248d0bd448298cc2e2071e56992d0774dc340c368ae950852ada",
			1, "7156526fbd7a3c72969b54f64e42c10fbb768c8a",
		},
	} {
		g := api.Signature{R: fromHex(x.r), S: fromHex(x.s), Odd: x.odd}
		a, e := secp.Sender(hashOf(fromHex(x.hash)), g)
		if number(fromHex(x.address)).Cmp(new(big.Int).SetBytes(a[:])) != 0 || e != api.OK {
			t.Errorf("Sender(%s): %x, %d", x.hash, a, e)
		}
	}
}

// P6.6: Sender is the address of what is recovered.
func TestSender(t *testing.T) {
	f := source{at: 43}
	for range 10 {
		key, nonce, h := f.scalar(), f.scalar(), hashOf(f.word())
		p, _ := secp.Public(key)
		should, _ := secp.Address(p)
		g, _ := secp.Sign(key, h, nonce)
		if a, e := secp.Sender(h, g); a != should || e != api.OK {
			t.Fatalf("Sender(%x, %x): %x, %d, not %x", h, g, a, e, should)
		}
	}
}

// P6.6
func TestLow(t *testing.T) {
	middle := fromHex("7fffffffffffffffffffffffffffffff5d576e7357a4501ddfe92f46681b20a0")
	for _, x := range []struct {
		s   api.Word
		low bool
	}{
		{api.Word{}, true}, {api.Word{1}, true}, {plus(middle, -1), true}, {middle, true}, {plus(middle, 1), false},
		{plus(field.SecpN(), -1), false}, {field.SecpN(), false}, {top(), false}, {api.Word{3: 1 << 63}, false},
		{api.Word{0, 0, 1<<64 - 1, 0}, true}, {api.Word{3: 1<<63 - 2, 0: 1<<64 - 1}, true},
	} {
		if secp.Low(x.s) != x.low {
			t.Errorf("Low(%x): %v", x.s, !x.low)
		}
	}
}
