package curve

import "cairn/field"

// terms are the numbers that tell a curve y^2 = x^3 + b and its group.
type terms[E comparable] struct {
	one   E // the number 1, as the curve's field writes it
	b     E
	base  point[E]
	order [4]uint64 // how many points the group has
}

// bnTerms1 answers those of bn254's E1.
func bnTerms1() terms[[4]uint64] {
	return terms[[4]uint64]{
		one:   [4]uint64{1},
		b:     [4]uint64{3},
		base:  point[[4]uint64]{x: [4]uint64{1}, y: [4]uint64{2}},
		order: field.BnR(),
	}
}

// bnTerms2 answers those of bn254's E2. Its b is 3 / (9 + u), worked out, for dividing would be the dearest part of making a Curve.
func bnTerms2() terms[[2][4]uint64] {
	return terms[[2][4]uint64]{
		one: [2][4]uint64{{1}},
		b: [2][4]uint64{
			{0x3267e6dc24a138e5, 0xb5b4c5e559dbefa3, 0x81be18991be06ac3, 0x2b149d40ceb8aaae},
			{0xe4a2bd0685c315d2, 0xa74fa084e52d1852, 0xcd2cafadeed8fdf4, 0x009713b03af0fed4},
		},
		base: point[[2][4]uint64]{
			x: [2][4]uint64{
				{0x46debd5cd992f6ed, 0x674322d4f75edadd, 0x426a00665e5c4479, 0x1800deef121f1e76},
				{0x97e485b7aef312c2, 0xf1aa493335a9e712, 0x7260bfb731fb5d25, 0x198e9393920d483a},
			},
			y: [2][4]uint64{
				{0x4ce6cc0166fa7daa, 0xe3d1e7690c43d37b, 0x4aab71808dcb408f, 0x12c85ea5db8c6deb},
				{0x55acdadcd122975b, 0xbc4b313370b38ef3, 0xec9e99ad690c3395, 0x090689d0585ff075},
			},
		},
		order: field.BnR(),
	}
}

// blsTerms1 answers those of BLS12-381's E1.
func blsTerms1() terms[[6]uint64] {
	return terms[[6]uint64]{
		one: [6]uint64{1},
		b:   [6]uint64{4},
		base: point[[6]uint64]{
			x: [6]uint64{
				0xfb3af00adb22c6bb, 0x6c55e83ff97a1aef, 0xa14e3a3f171bac58, 0xc3688c4f9774b905, 0x2695638c4fa9ac0f, 0x17f1d3a73197d794,
			},
			y: [6]uint64{
				0x0caa232946c5e7e1, 0xd03cc744a2888ae4, 0x00db18cb2c04b3ed, 0xfcf5e095d5d00af6, 0xa09e30ed741d8ae4, 0x08b3f481e3aaa0f1,
			},
		},
		order: field.BlsR(),
	}
}

// blsTerms2 answers those of BLS12-381's E2.
func blsTerms2() terms[[2][6]uint64] {
	return terms[[2][6]uint64]{
		one: [2][6]uint64{{1}},
		b:   [2][6]uint64{{4}, {4}},
		base: point[[2][6]uint64]{
			x: [2][6]uint64{
				{0xd48056c8c121bdb8, 0x0bac0326a805bbef, 0xb4510b647ae3d177, 0xc6e47ad4fa403b02, 0x260805272dc51051, 0x024aa2b2f08f0a91},
				{0xe5ac7d055d042b7e, 0x334cf11213945d57, 0xb5da61bbdc7f5049, 0x596bd0d09920b61a, 0x7dacd3a088274f65, 0x13e02b6052719f60},
			},
			y: [2][6]uint64{
				{0xe193548608b82801, 0x923ac9cc3baca289, 0x6d429a695160d12c, 0xadfd9baa8cbdd3a7, 0x8cc9cdc6da2e351a, 0x0ce5d527727d6e11},
				{0xaaa9075ff05f79be, 0x3f370d275cec1da1, 0x267492ab572e99ab, 0xcb3e287e85a763af, 0x32acd2b02bc28b99, 0x0606c4a02ea734cc},
			},
		},
		order: field.BlsR(),
	}
}
