package field

// SecpP answers the prime of secp256k1's coordinates: P5.6
func SecpP() [4]uint64 {
	return [4]uint64{0xfffffffefffffc2f, 0xffffffffffffffff, 0xffffffffffffffff, 0xffffffffffffffff}
}

// SecpN answers how many points secp256k1 has: P5.6
func SecpN() [4]uint64 {
	return [4]uint64{0xbfd25e8cd0364141, 0xbaaedce6af48a03b, 0xfffffffffffffffe, 0xffffffffffffffff}
}

// BnP answers the prime of bn254's coordinates: P5.6
func BnP() [4]uint64 {
	return [4]uint64{0x3c208c16d87cfd47, 0x97816a916871ca8d, 0xb85045b68181585d, 0x30644e72e131a029}
}

// BnR answers how many points bn254's groups have: P5.6
func BnR() [4]uint64 {
	return [4]uint64{0x43e1f593f0000001, 0x2833e84879b97091, 0xb85045b68181585d, 0x30644e72e131a029}
}

// BlsP answers the prime of BLS12-381's coordinates: P5.6
func BlsP() [6]uint64 {
	return [6]uint64{0xb9feffffffffaaab, 0x1eabfffeb153ffff, 0x6730d2a0f6b0f624, 0x64774b84f38512bf, 0x4b1ba7b6434bacd7, 0x1a0111ea397fe69a}
}

// BlsR answers how many points BLS12-381's groups have: P5.6
func BlsR() [4]uint64 {
	return [4]uint64{0xffffffff00000001, 0x53bda402fffe5bfe, 0x3339d80809a1d805, 0x73eda753299d7d48}
}
