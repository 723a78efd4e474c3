package pre_test

import (
	"bytes"
	"testing"

	"cairn/api"
)

// proven is an input of the contract 10 whose proof is known elsewhere, and the answer.
func proven() (input, should []byte) {
	return octets("01e798154708fe7789429634053cbf9f99b619f9f084048927333fce637f549b" +
			"564c0a11a0f704f4fc3e8acfe0f8245f0ad1347b378fbf96e206da11a5d36306" +
			"24d25032e67a7e6a4910df5834b8fe70e6bcfeeac0352434196bdf4b2485d5a1" +
			"8f59a8d2a1a625a17f3fea0fe5eb8c896db3764f3185481bc22f91b4aaffcca25f26936857bc3a7c2539ea8ec3a952b7" +
			"873033e038326e87ed3e1276fd140253fa08e9fc25fb2d9a98527fc22a2c9612fbeafdad446cbc7bcdbdcd780af2c16a"),
		octets("000000000000000000000000000000000000000000000000000000000000100073eda753299d7d483339d80809a1d80553bda402fffe5bfeffffffff00000001")
}

// P16.3: a proof that holds, and what is a byte away from it.
func TestClaim(t *testing.T) {
	t.Parallel()
	input, should := proven()
	wantRun(t, "proven", 10, input, should, api.OK)
	for i := range input {
		input[i] ^= 1
		wantRun(t, "a bit changed", 10, input, nil, api.ErrFails)
		input[i] ^= 1
	}
	wantRun(t, "proven again", 10, input, should, api.OK)
}

// P16.3: other lengths.
func TestClaimLength(t *testing.T) {
	input, _ := proven()
	for n := range 192 {
		wantRun(t, "too short", 10, input[:n], nil, api.ErrFails)
	}
	for _, more := range [][]byte{{0}, {1}, noughts(192), input} {
		wantRun(t, "too long", 10, append(bytes.Clone(input), more...), nil, api.ErrFails)
	}
	wantRun(t, "noughts", 10, noughts(192), nil, api.ErrFails)
}
