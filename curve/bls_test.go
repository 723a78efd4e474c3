package curve_test

import (
	"bytes"
	"math/big"
	"testing"

	"cairn/api"
	"cairn/curve"
)

// blsSide calls f with G1 of BLS12-381.
func blsSide(t *testing.T, f func(t *testing.T, s side)) {
	t.Helper()
	sides(t, func(t *testing.T, s side) {
		if s.name == "BLS12-381 E1" {
			f(t, s)
		}
	})
}

func readBls(b []byte) (spot, api.Errno) {
	p, e := curve.ReadBls1(b)
	return spot1(p), e
}

func writeBls(p spot) ([]byte, api.Errno) { return curve.WriteBls1(p1[[6]uint64](p)) }

// half is (p - 1) / 2.
func (s side) half() *big.Int { return new(big.Int).Rsh(s.p, 1) }

// modelBls is P7.7's bytes of a good point.
func (s side) modelBls(p spot) []byte {
	b := number(p.X[0]).FillBytes(make([]byte, 48))
	switch {
	case p.Inf:
		b[0] |= 0xc0
	case number(p.Y[0]).Cmp(s.half()) > 0:
		b[0] |= 0xa0
	default:
		b[0] |= 0x80
	}
	return b
}

// modelReadBls is P7.7, of 48 bytes.
func (s side) modelReadBls(b []byte) (spot, api.Errno) {
	infinity := append([]byte{0xc0}, make([]byte, 47)...)
	if b[0]&0x80 == 0 || b[0]&0x40 != 0 && !bytes.Equal(b, infinity) {
		return spot{}, api.ErrFlags
	}
	if bytes.Equal(b, infinity) {
		return none(), api.OK
	}
	x := new(big.Int).SetBytes(append([]byte{b[0] & 0x1f}, b[1:]...))
	if x.Cmp(s.p) >= 0 {
		return spot{}, api.ErrCoord
	}
	p, ok := s.lift(pair{x, new(big.Int)})
	if !ok {
		return spot{}, api.ErrCurve
	}
	if (number(p.Y[0]).Cmp(s.half()) > 0) != (b[0]&0x20 != 0) {
		p = s.modelNeg(p)
	}
	if e := s.modelGroup(p); e != api.OK {
		return spot{}, e
	}
	return p, api.OK
}

// wantBls holds ReadBls1 against the model.
func (s side) wantBls(t *testing.T, b []byte) {
	t.Helper()
	should, shouldE := s.modelReadBls(b)
	p, e := readBls(b)
	wantError(t, "ReadBls1", p, e, should, shouldE, b)
}

// flagged is x's bytes with flags.
func flagged(flags byte, x *big.Int) []byte {
	b := x.FillBytes(make([]byte, 48))
	b[0] |= flags
	return b
}

// P7.7: both points of each x.
func TestReadBls(t *testing.T) {
	blsSide(t, func(t *testing.T, s side) {
		great := 0
		for _, p := range s.members(10) {
			for _, p := range []spot{p, s.modelNeg(p)} {
				q, e := readBls(s.modelBls(p))
				want(t, "ReadBls1", q, e, p)
				if number(p.Y[0]).Cmp(s.half()) > 0 {
					great++
				}
			}
		}
		if great < 10 {
			t.Error(great)
		}
	})
}

// P7.7: of the points of the curve those that are none of the group are refused, (0, 2), whose order is 3, among them.
func TestReadBlsGroup(t *testing.T) {
	blsSide(t, func(t *testing.T, s side) {
		outside := 0
		for _, p := range s.points(t, 10) {
			s.wantBls(t, s.modelBls(p))
			if _, e := readBls(s.modelBls(p)); e == api.ErrGroup {
				outside++
			}
		}
		if outside < 10 {
			t.Error(outside)
		}
		for _, flags := range []byte{0x80, 0xa0} {
			p, e := readBls(flagged(flags, new(big.Int)))
			wantError(t, "x = 0", p, e, spot{}, api.ErrGroup)
		}
	})
}

// P7.7: every other length, none and nil among them.
func TestReadBlsLengths(t *testing.T) {
	blsSide(t, func(t *testing.T, s side) {
		p, e := readBls(nil)
		wantError(t, "ReadBls1 of nil", p, e, spot{}, api.ErrLong)
		whole := bytes.Repeat(s.modelBls(s.base()), 3)
		for n := range len(whole) {
			if n == 48 {
				continue
			}
			infinity := make([]byte, n)
			if n > 0 {
				infinity[0] = 0xc0
			}
			for _, b := range [][]byte{whole[:n], whole[len(whole)-n:], make([]byte, n), infinity} {
				p, e := readBls(b)
				wantError(t, "ReadBls1", p, e, spot{}, api.ErrLong, n)
			}
		}
	})
}

// P7.7: each flag, alone and with others, over numbers of all kinds.
func TestReadBlsFlags(t *testing.T) {
	blsSide(t, func(t *testing.T, s side) {
		for _, x := range []*big.Int{
			new(big.Int), big.NewInt(1), s.noX(), number(s.base().X[0]), plus(s.p, -1), s.p, plus(s.p, 1), power(381, -1), power(380, 0), power(8, 0),
		} {
			for flags := range 8 {
				s.wantBls(t, flagged(byte(flags)<<5, x))
			}
		}
		zero, x := new(big.Int), number(s.base().X[0])
		for _, w := range []struct {
			flags byte
			x     *big.Int
			p     spot
			e     api.Errno
		}{
			{0x00, zero, spot{}, api.ErrFlags}, {0x20, zero, spot{}, api.ErrFlags}, {0x40, zero, spot{}, api.ErrFlags}, {0x60, zero, spot{}, api.ErrFlags},
			{0x80, zero, spot{}, api.ErrGroup}, {0xa0, zero, spot{}, api.ErrGroup}, {0xc0, zero, none(), api.OK}, {0xe0, zero, spot{}, api.ErrFlags},
			{0x00, x, spot{}, api.ErrFlags}, {0x20, x, spot{}, api.ErrFlags}, {0x40, x, spot{}, api.ErrFlags}, {0x60, x, spot{}, api.ErrFlags},
			{0x80, x, s.base(), api.OK}, {0xa0, x, s.modelNeg(s.base()), api.OK}, {0xc0, x, spot{}, api.ErrFlags}, {0xe0, x, spot{}, api.ErrFlags},
			{0x00, s.p, spot{}, api.ErrFlags}, {0xc0, s.p, spot{}, api.ErrFlags}, {0x80, s.p, spot{}, api.ErrCoord}, {0xa0, s.p, spot{}, api.ErrCoord},
		} {
			p, e := readBls(flagged(w.flags, w.x))
			wantError(t, "ReadBls1", p, e, w.p, w.e, w.flags, w.x)
		}
	})
}

// P7.7: infinity with any one other bit.
func TestReadBlsInfinity(t *testing.T) {
	blsSide(t, func(t *testing.T, s side) {
		for i := range 384 {
			b := flagged(0xc0, new(big.Int))
			b[i/8] ^= 0x80 >> (i % 8)
			p, e := readBls(b)
			// Without 0x40 it is x = 0 and its smaller y: a point of order 3.
			should := api.ErrFlags
			if i == 1 {
				should = api.ErrGroup
			}
			wantError(t, "ReadBls1", p, e, spot{}, should, i)
		}
	})
}

// noX is the least x that no point has.
func (s side) noX() *big.Int {
	for x := new(big.Int); ; x = plus(x, 1) {
		if _, ok := s.lift(pair{x, new(big.Int)}); !ok {
			return x
		}
	}
}

// P7.7: x that no point has, and x from p on, though modulo p it would be a point's.
func TestReadBlsRefuses(t *testing.T) {
	blsSide(t, func(t *testing.T, s side) {
		for _, flags := range []byte{0x80, 0xa0} {
			p, e := readBls(flagged(flags, s.noX()))
			wantError(t, "no point's x", p, e, spot{}, api.ErrCurve)
			for _, x := range []*big.Int{s.p, plus(s.p, 1), plus(s.p, 2), power(381, -1), new(big.Int).Add(s.p, s.noX())} {
				p, e := readBls(flagged(flags, x))
				wantError(t, "x from p on", p, e, spot{}, api.ErrCoord, x)
			}
		}
		f := source{at: 21}
		for range 100 {
			b := f.number().FillBytes(make([]byte, 48))
			if f.next()%8 != 0 {
				b[0] = b[0]&^0xc0 | 0x80
			}
			s.wantBls(t, b)
		}
	})
}

// P7.7
func TestWriteBls(t *testing.T) {
	blsSide(t, func(t *testing.T, s side) {
		for _, p := range s.points(t, 20) {
			if b, e := writeBls(p); !bytes.Equal(b, s.modelBls(p)) || e != api.OK {
				t.Fatalf("%v: %x, %d", p, b, e)
			}
		}
		for _, w := range s.bad() {
			if b, e := writeBls(w.p); len(b) != 0 || e != w.e {
				t.Fatalf("%s, %v: %x, %d, not %d", w.name, w.p, b, e, w.e)
			}
		}
	})
}

// cubeRoot is a cube root of a modulo p, if there is one, for p - 1 that is 9 times a number t which 3 doesn't divide. a to the power
// 1 / 3 modulo t is one but for a ninth root of 1.
func (s side) cubeRoot(a *big.Int) (*big.Int, bool) {
	a = new(big.Int).Mod(a, s.p)
	t := new(big.Int).Div(plus(s.p, -1), big.NewInt(9))
	x := new(big.Int).Exp(a, new(big.Int).ModInverse(big.NewInt(3), t), s.p)
	// Some small number is no cube: its power t is a ninth root of 1 of which the others are powers.
	for g := int64(2); g < 20; g++ {
		ninth := new(big.Int).Exp(big.NewInt(g), t, s.p)
		for range 9 {
			if new(big.Int).Exp(x, big.NewInt(3), s.p).Cmp(a) == 0 {
				return x, true
			}
			x.Mul(x, ninth).Mod(x, s.p)
		}
	}
	return nil, false
}

// P7.7: y just at (p - 1) / 2 and just above, and the least and the greatest: 0x20 is just that of the greater one. No point has one of
// the two in the middle, so that the nearest ones that there are stand for them.
func TestWriteBlsAtHalf(t *testing.T) {
	blsSide(t, func(t *testing.T, s side) {
		found := 0
		for d := range int64(100) {
			for _, y := range []*big.Int{plus(s.half(), -d), big.NewInt(d)} {
				square := new(big.Int).Mul(y, y)
				x, ok := s.cubeRoot(plus(square, -4))
				if !ok {
					continue
				}
				found++
				p := spot{X: [2][6]uint64{numeral(x)}, Y: [2][6]uint64{numeral(y)}}
				b, e := writeBls(p)
				if !bytes.Equal(b, flagged(0x80, x)) || e != api.OK {
					t.Fatalf("y = %x: %x, %d", y, b, e)
				}
				p.Y[0] = numeral(new(big.Int).Sub(s.p, y))
				b, e = writeBls(p)
				if !bytes.Equal(b, flagged(0xa0, x)) || e != api.OK {
					t.Fatalf("y = p - %x: %x, %d", y, b, e)
				}
			}
		}
		if found < 40 {
			t.Error(found)
		}
	})
}

// P7.10
func TestBlsThereAndBack(t *testing.T) {
	blsSide(t, func(t *testing.T, s side) {
		for _, p := range s.members(20) {
			for _, p := range []spot{p, s.modelNeg(p)} {
				b, e := writeBls(p)
				if e != api.OK {
					t.Fatal(e)
				}
				q, e := readBls(b)
				want(t, "ReadBls1 of WriteBls1", q, e, p)
				if again, e := writeBls(q); !bytes.Equal(again, b) || e != api.OK {
					t.Fatalf("%x, %x, %d", b, again, e)
				}
			}
		}
	})
}
