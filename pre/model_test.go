package pre_test

import (
	"bytes"
	"crypto/sha256"
	"math/big"
	"testing"

	"cairn/api"
	"cairn/curve"
	"cairn/digest"
	"cairn/kzg"
	"cairn/pairing"
	"cairn/secp"
)

// The model goes by the chapter's words in whole numbers of any size; the layers below, which have tests of their own, do the rest.

// padded is input with noughts behind it, cut to k bytes.
func padded(input []byte, k int) []byte {
	b := noughts(k)
	copy(b, input)
	return b
}

// behind is what of input lies behind so many bytes.
func behind(input []byte, n int) []byte { return input[min(n, len(input)):] }

// modelCost is what P16.2 says of a contract that there is, and an input that isn't too long.
func modelCost(n int, input []byte) (uint64, api.Errno) {
	words := uint64(len(input)+31) / 32
	switch n {
	case 1:
		return 3000, api.OK
	case 2:
		return 60 + 12*words, api.OK
	case 3:
		return 600 + 120*words, api.OK
	case 4:
		return 15 + 3*words, api.OK
	case 5:
		return modelPower(input)
	case 6:
		return 150, api.OK
	case 7:
		return 6000, api.OK
	case 8:
		return 45000 + 34000*uint64(len(input)/192), api.OK
	case 9:
		if len(input) != 213 {
			return 0, api.OK
		}
		return of(input[:4]).Uint64(), api.OK
	}
	return 50000, api.OK
}

// lengths are the numbers of input padded to 96 bytes.
func lengths(input []byte) (base, exp, mod *big.Int) {
	b := padded(input, 96)
	return of(b[:32]), of(b[32:64]), of(b[64:])
}

// modelPower is what P16.2 says of the contract 5.
func modelPower(input []byte) (uint64, api.Errno) {
	base, exp, mod := lengths(input)
	if base.Sign() == 0 && mod.Sign() == 0 {
		return 200, api.OK
	}
	for _, n := range []*big.Int{base, exp, mod} {
		if n.Cmp(whole(mostPart)) > 0 {
			return 0, api.ErrGas
		}
	}
	m := max(base.Int64(), mod.Int64())
	for m%8 != 0 {
		m++
	}
	m = m / 8 * (m / 8)
	h := of(padded(behind(input, 96+int(base.Int64())), int(min(exp.Int64(), 32))))
	k := int64(0)
	if h.Sign() != 0 {
		k = int64(h.BitLen()) - 1
	}
	if exp.Int64() > 32 {
		k += 8 * (exp.Int64() - 32)
	}
	k = max(k, 1)
	return uint64(max(m*k/3, 200)), api.OK
}

// modelRun is what P16.3 says of a contract that there is, and an input that isn't too long.
func modelRun(n int, input []byte) ([]byte, api.Errno) {
	if _, e := modelCost(n, input); e != api.OK {
		return nil, e
	}
	switch n {
	case 1:
		return modelSigner(padded(input, 128)), api.OK
	case 2:
		h := sha256.Sum256(input)
		return h[:], api.OK
	case 3:
		h := digest.Ripemd(input)
		return join(noughts(12), h[:]), api.OK
	case 4:
		return input, api.OK
	case 5:
		base, exp, mod := lengths(input)
		if mod.Sign() == 0 {
			return nil, api.OK
		}
		rest := behind(input, 96)
		b := padded(rest, int(base.Int64()))
		rest = behind(rest, len(b))
		e := padded(rest, int(exp.Int64()))
		return modelModExp(b, e, padded(behind(rest, len(e)), int(mod.Int64()))), api.OK
	case 6, 7:
		return modelSum(n, padded(input, 128))
	case 8:
		return modelPairs(input)
	case 9:
		return modelBlake(input)
	}
	out, e := kzg.Check(input)
	if e != api.OK {
		return nil, api.ErrFails
	}
	return out, api.OK
}

func modelSigner(b []byte) []byte {
	v := of(b[32:64])
	if v.Cmp(whole(27)) != 0 && v.Cmp(whole(28)) != 0 {
		return nil
	}
	g := api.Signature{R: asWord(of(b[64:96])), S: asWord(of(b[96:])), Odd: int(v.Int64()) - 27}
	a, e := secp.Sender(api.Hash(b[:32]), g)
	if e != api.OK {
		return nil
	}
	return join(noughts(12), a[:])
}

// modelModExp is what P16.5 says.
func modelModExp(base, exp, mod []byte) []byte {
	out := noughts(len(mod))
	m := of(mod)
	if m.Sign() == 0 {
		return out
	}
	return new(big.Int).Exp(of(base), of(exp), m).FillBytes(out)
}

func modelSum(n int, b []byte) ([]byte, api.Errno) {
	p, e := curve.ReadBn1(b[:64])
	if e != api.OK {
		return nil, api.ErrFails
	}
	if n == 7 {
		return curve.WriteBn1(good(curve.Bn().Mul1(p, asWord(of(b[64:96]))))), api.OK
	}
	q, e := curve.ReadBn1(b[64:])
	if e != api.OK {
		return nil, api.ErrFails
	}
	return curve.WriteBn1(good(curve.Bn().Add1(p, q))), api.OK
}

func modelPairs(input []byte) ([]byte, api.Errno) {
	if len(input)%192 != 0 {
		return nil, api.ErrFails
	}
	var p []api.P1[[4]uint64]
	var q []api.P2[[4]uint64]
	for ; len(input) > 0; input = input[192:] {
		p1, e1 := curve.ReadBn1(input[:64])
		p2, e2 := curve.ReadBn2(input[64:192])
		if e1 != api.OK || e2 != api.OK {
			return nil, api.ErrFails
		}
		p, q = append(p, p1), append(q, p2)
	}
	if good(pairing.Bn(p, q)) {
		return word32(whole(1)), api.OK
	}
	return word32(whole(0)), api.OK
}

func modelBlake(input []byte) ([]byte, api.Errno) {
	if len(input) != 213 || input[212] > 1 {
		return nil, api.ErrFails
	}
	var w [26]uint64
	for i := range w {
		for j := 7; j >= 0; j-- {
			w[i] = w[i]<<8 + uint64(input[4+8*i+j])
		}
	}
	var out []byte
	for _, n := range digest.Blake(uint32(of(input[:4]).Uint64()), [8]uint64(w[:8]), [16]uint64(w[8:24]), [2]uint64(w[24:]), input[212] == 1) {
		for range 8 {
			out = append(out, byte(n))
			n /= 256
		}
	}
	return out, api.OK
}

// wantModel holds Cost, Run and Call against the model.
func wantModel(t *testing.T, name string, n int, input []byte) {
	t.Helper()
	cost, e := modelCost(n, input)
	wantCost(t, name, n, input, cost, e)
	out, e := modelRun(n, input)
	wantRun(t, name, n, input, out, e)
}

// P16.2, P16.3, P16.4, P16.9: any bytes, of all lengths that matter, with small numbers where rounds or lengths stand.
func TestAnyInput(t *testing.T) {
	t.Parallel()
	s := source{at: 1}
	for n := 1; n <= 10; n++ {
		for long := range 260 {
			input := s.octets(long)
			if n == 9 {
				copy(input, []byte{0, 0, 0})
			}
			if n == 5 {
				wantModel(t, "any lengths", n, input)
				copy(input, join(word32s(whole(int64(s.below(50))), whole(int64(s.below(50))), whole(int64(s.below(50))))))
			}
			wantModel(t, "any", n, bytes.Clone(input))
		}
	}
}

// P16.2, P16.3: each length of noughts, and of the greatest bytes.
func TestSameBytes(t *testing.T) {
	t.Parallel()
	for n := 1; n <= 10; n++ {
		for long := range 400 {
			wantModel(t, "noughts", n, noughts(long))
			if n != 9 {
				wantModel(t, "the greatest bytes", n, bytesOf(long, 0xff))
			}
		}
	}
}
