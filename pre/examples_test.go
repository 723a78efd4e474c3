package pre_test

import (
	"testing"

	"cairn/api"
	"cairn/pre"
)

// The chapter's first example.
func TestFirstExample(t *testing.T) {
	if n, is := pre.Is(api.Address{19: 5}); n != 5 || !is {
		t.Error(n, is)
	}
	wantRun(t, "4", 4, []byte("abc"), []byte("abc"), api.OK)
	wantRun(t, "2", 2, nil, octets("e3b0c44298fc1c149afbf4c8996fb92427ae41e4649b934ca495991b7852b855"), api.OK)
	wantCost(t, "5", 5, nil, 200, api.OK)
	wantRun(t, "5", 5, nil, nil, api.OK)
}

// The chapter's second example.
func TestSecondExample(t *testing.T) {
	wantRun(t, "5", 5, sized(1, 1, 1, 3, 5, 7), []byte{5}, api.OK)
	wantRun(t, "8", 8, nil, word32(whole(1)), api.OK)
	wantRun(t, "6", 6, nil, noughts(64), api.OK)
	wantRun(t, "1", 1, nil, nil, api.OK)
	wantRun(t, "9", 9, nil, nil, api.ErrFails)
}
