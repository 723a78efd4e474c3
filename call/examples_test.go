package call_test

import (
	"testing"

	"cairn/api"
	"cairn/call"
)

// Example 1 of the chapter.
func TestExampleAddresses(t *testing.T) {
	from := addressOf(t, "6ac7ea33f8831ea9dcc53393aaa88b25a785dbf0")
	wantAddress(t, "Made", call.Made(from, 0), addressOf(t, "cd234a471b72ba2f1ccf0a70fcaba648a5eecd8d"))
	wantAddress(t, "Made2", call.Made2(api.Address{}, api.Word{}, []byte{0}), addressOf(t, "4d1a2e2bb4f88f0250f26ffff098b0b30b26bf38"))
}

// Example 2 of the chapter.
func TestExampleFaultAndRevert(t *testing.T) {
	m := to(api.MsgCall)
	m.Gas = 100
	got := do(over(coded(target, raw(0xfe))), m)
	wantResult(t, "a fault", got, api.Result{Err: api.ErrOpcode, Steps: 1})
	got = do(over(coded(target, raw(0x5f, 0x5f, 0xfd))), m)
	wantResult(t, "a revert", got, api.Result{Err: api.ErrRevert, Gas: 96, Steps: 3})
}
