package curve_test

import (
	"bytes"
	"math/big"
	"testing"

	"cairn/api"
	"cairn/curve"
)

// bnSide is a side of bn254 with its bytes.
type bnSide struct {
	side
	read  func(b []byte) (spot, api.Errno)
	write func(p spot) []byte
}

// bnSides calls f with both groups of bn254.
func bnSides(t *testing.T, f func(t *testing.T, s bnSide)) {
	t.Helper()
	sides(t, func(t *testing.T, s side) {
		switch s.name {
		case "bn254 E1":
			f(t, bnSide{s,
				func(b []byte) (spot, api.Errno) { p, e := curve.ReadBn1(b); return spot1(p), e },
				func(p spot) []byte { return curve.WriteBn1(p1[[4]uint64](p)) },
			})
		case "bn254 E2":
			f(t, bnSide{s,
				func(b []byte) (spot, api.Errno) { p, e := curve.ReadBn2(b); return spot2(p), e },
				func(p spot) []byte { return curve.WriteBn2(p2[[4]uint64](p)) },
			})
		}
	})
}

// size is how many bytes a point has.
func (s bnSide) size() int { return 64 * s.parts }

// modelWrite is P7.6, of a point of any numbers.
func (s bnSide) modelWrite(p spot) []byte {
	b := make([]byte, 0, s.size())
	for _, a := range [][2][6]uint64{p.X, p.Y} {
		for part := s.parts - 1; part >= 0; part-- {
			n := number(a[part])
			if p.Inf {
				n = new(big.Int)
			}
			b = append(b, n.FillBytes(make([]byte, 32))...)
		}
	}
	return b
}

// modelRead is P7.6, of just so many bytes.
func (s bnSide) modelRead(b []byte) (spot, api.Errno) {
	var p spot
	for i := range 2 * s.parts {
		at := 2*(i/s.parts) + s.parts - 1 - i%s.parts
		p = put(p, at, new(big.Int).SetBytes(b[32*i:32*i+32]))
	}
	p.Inf = p == spot{}
	e := s.modelGood(p)
	if e == api.OK && s.parts == 2 {
		e = s.modelGroup(p)
	}
	if e != api.OK {
		return spot{}, e
	}
	return p, e
}

// wantRead holds Read against the model.
func (s bnSide) wantRead(t *testing.T, b []byte) {
	t.Helper()
	should, shouldE := s.modelRead(b)
	p, e := s.read(b)
	wantError(t, "Read", p, e, should, shouldE, b)
}

// P7.6
func TestReadBn(t *testing.T) {
	bnSides(t, func(t *testing.T, s bnSide) {
		for _, p := range s.members(5) {
			q, e := s.read(s.modelWrite(p))
			want(t, "Read", q, e, p)
		}
		outside := 0
		for _, p := range s.points(t, 5) {
			s.wantRead(t, s.modelWrite(p))
			if _, e := s.read(s.modelWrite(p)); e == api.ErrGroup {
				outside++
			}
		}
		if (outside > 0) != (s.parts == 2) {
			t.Error("points outside the group:", outside)
		}
	})
}

// P7.6: all noughts are infinity, a single bit more is not.
func TestReadBnNoughts(t *testing.T) {
	bnSides(t, func(t *testing.T, s bnSide) {
		p, e := s.read(make([]byte, s.size()))
		want(t, "Read", p, e, none())
		for i := range 8 * s.size() {
			b := make([]byte, s.size())
			b[i/8] = 0x80 >> (i % 8)
			s.wantRead(t, b)
			if p, _ := s.read(b); p.Inf {
				t.Fatalf("bit %d: infinity", i)
			}
		}
	})
}

// P7.6: every other length, none and nil among them; of noughts, of a point's bytes and more, and of the other group's.
func TestReadBnLengths(t *testing.T) {
	bnSides(t, func(t *testing.T, s bnSide) {
		whole := bytes.Repeat(s.modelWrite(s.base()), 3)
		p, e := s.read(nil)
		wantError(t, "Read of nil", p, e, spot{}, api.ErrLong)
		for n := range len(whole) {
			if n == s.size() {
				continue
			}
			for _, b := range [][]byte{whole[:n], whole[len(whole)-n:], make([]byte, n), bytes.Repeat([]byte{0xff}, n)} {
				p, e := s.read(b)
				wantError(t, "Read", p, e, spot{}, api.ErrLong, n)
			}
		}
	})
}

// P7.6: Good's errors, in their order.
func TestReadBnRefuses(t *testing.T) {
	bnSides(t, func(t *testing.T, s bnSide) {
		for _, w := range s.bad() {
			if w.p.Inf || w.p == (spot{}) {
				continue
			}
			p, e := s.read(s.modelWrite(w.p))
			wantError(t, w.name, p, e, spot{}, w.e, w.p)
		}
		// What is 0 modulo p alone is neither infinity nor a point.
		for _, at := range s.numbersOf() {
			p, e := s.read(s.modelWrite(put(spot{}, at, s.p)))
			wantError(t, "p and noughts", p, e, spot{}, api.ErrCoord, at)
		}
		f := source{at: 19}
		for range 50 {
			var p spot
			for _, at := range s.numbersOf() {
				p = put(p, at, number([4]uint64(f.word())))
			}
			s.wantRead(t, s.modelWrite(p))
		}
	})
}

// P7.6: the bytes of what is a good point and of what is none.
func TestWriteBn(t *testing.T) {
	bnSides(t, func(t *testing.T, s bnSide) {
		l := s.points(t, 5)
		for _, w := range s.bad() {
			l = append(l, w.p)
		}
		for _, p := range l {
			if b := s.write(p); !bytes.Equal(b, s.modelWrite(p)) {
				t.Fatalf("%v: %x", p, b)
			}
			p.Inf = true
			if b := s.write(p); !bytes.Equal(b, make([]byte, s.size())) {
				t.Fatalf("%v: %x", p, b)
			}
		}
	})
}

// P7.6: which number stands where.
func TestBnOrder(t *testing.T) {
	number := func(n byte) []byte { return append([]byte{n}, make([]byte, 31)...) }
	four := func(n uint64) [4]uint64 { return [4]uint64{0, 0, 0, n << 56} }
	b := curve.WriteBn1(api.P1[[4]uint64]{X: four(1), Y: four(2)})
	if !bytes.Equal(b, bytes.Join([][]byte{number(1), number(2)}, nil)) {
		t.Errorf("%x", b)
	}
	b = curve.WriteBn2(api.P2[[4]uint64]{X: [2][4]uint64{four(1), four(2)}, Y: [2][4]uint64{four(3), four(4)}})
	if !bytes.Equal(b, bytes.Join([][]byte{number(2), number(1), number(4), number(3)}, nil)) {
		t.Errorf("%x", b)
	}
}

// P7.10
func TestBnThereAndBack(t *testing.T) {
	bnSides(t, func(t *testing.T, s bnSide) {
		l := s.members(10)
		if s.parts == 1 {
			// All points of E1 belong to the group.
			l = append(l, s.points(t, 20)...)
		}
		for _, p := range l {
			b := s.write(p)
			q, e := s.read(b)
			want(t, "Read of Write", q, e, p)
			if again := s.write(q); !bytes.Equal(again, b) {
				t.Fatalf("%x, %x", b, again)
			}
		}
	})
}
