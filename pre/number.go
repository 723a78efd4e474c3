package pre

import (
	"iter"
	"math/bits"

	"cairn/limb"
)

const (
	limbBits  = 64
	limbBytes = limbBits / bitsOfByte
)

// number is a number of any size: its limbs, the least ahead, without leading ones that are 0.
type number []uint64

// numberOf answers the number of bytes, the highest first.
func numberOf(b []byte) number {
	n := make(number, (len(b)+limbBytes-1)/limbBytes)
	for i := range len(b) {
		n[i/limbBytes] |= uint64(b[len(b)-1-i]) << (i % limbBytes * bitsOfByte)
	}
	return n.used()
}

// write lays the bytes of n, the highest first, at the end of out, which has room for them.
func (n number) write(out []byte) {
	for i := range min(len(out), len(n)*limbBytes) {
		out[len(out)-1-i] = byte(n[i/limbBytes] >> (i % limbBytes * bitsOfByte))
	}
}

func (n number) used() number { return n[:limb.Used(n)] }

// up answers n * 2^by, by below limbBits.
func (n number) up(by int) number {
	more := make(number, len(n)+1)
	for i, l := range n {
		more[i] |= l << by
		more[i+1] = l >> (limbBits - by)
	}
	return more.used()
}

// down answers n / 2^by, rounded down, by below limbBits.
func (n number) down(by int) number {
	less := make(number, len(n))
	var above uint64
	for i := len(n) - 1; i >= 0; i-- {
		less[i] = n[i]>>by | above<<(limbBits-by)
		above = n[i]
	}
	return less.used()
}

// times answers n * by. A limb more is made for it, as modulo needs one.
func (n number) times(by number) number {
	product := make(number, len(n)+len(by)+1)
	for i, l := range n {
		var carry uint64
		for j, m := range by {
			carry, product[i+j] = limb.MultiplyAdd(l, m, product[i+j], carry)
		}
		product[i+len(by)] = carry
	}
	return product.used()
}

// modulo answers what n leaves divided by m, whose highest bit is set. It is reckoned in n's own limbs.
func (n number) modulo(m number) number {
	n = append(n, 0)
	for at := len(n) - len(m) - 1; at >= 0; at-- {
		limb.Divide(n[at:at+len(m)+1], m)
	}
	return n.used()
}

// raise answers base to the power of the number of exp, modulo m, which is not 0. All is reckoned modulo a multiple of m whose highest
// bit is set, so that nothing need be moved up and down at each division, and at last modulo m.
func raise(base number, exp []byte, m number) number {
	by := bits.LeadingZeros64(m[len(m)-1])
	multiple := m.up(by)
	base = base.modulo(multiple)
	raised := number{1}
	for isSet := range bitsOf(exp) {
		raised = raised.times(raised).modulo(multiple)
		if isSet {
			raised = raised.times(base).modulo(multiple)
		}
	}
	return raised.up(by).modulo(multiple).down(by)
}

// bitsOf tells the bits of b, the highest first, from the highest one that is set.
func bitsOf(b []byte) iter.Seq[bool] {
	return func(yield func(isSet bool) bool) {
		begun := false
		for i := range bitsOfByte * len(b) {
			isSet := b[i/bitsOfByte]>>(bitsOfByte-1-i%bitsOfByte)%2 == 1
			begun = begun || isSet
			if begun && !yield(isSet) {
				return
			}
		}
	}
}
