package call_test

import (
	"fmt"
	"slices"
	"testing"

	"cairn/api"
	"cairn/call"
)

// P17.6: the instructions of all that ran, and how deep it came: calls of each opcode, that go well or not.
func TestCounts(t *testing.T) {
	for _, op := range []byte{0xf1, 0xf2, 0xf4, 0xfa} {
		pushes := 8
		if op == 0xf4 || op == 0xfa {
			pushes = 7
		}
		for what, x := range map[string]struct {
			to           api.Address
			code         []byte
			steps, depth int
		}{
			"STOP": {helper, stop(), 1, 1}, "the end": {helper, raw(0x5f, 0x5f), 3, 1}, "a revert": {helper, revert(0), 3, 1},
			"a fault": {helper, raw(0x5f, 0xfe), 2, 1}, "no code": {helper, nil, 0, 0}, "nobody": {absent, nil, 0, 0}, "a contract": {echo, nil, 0, 0},
			"a contract that fails": {api.Address{19: 9}, nil, 0, 0},
		} {
			m := to(api.MsgCall)
			r := do(over(coded(target, calling(op, x.to, 0, 50000, 0)), coded(helper, x.code)), m)
			wantNumber(t, fmt.Sprintf("%s, opcode %x: steps", what, op), uint64(r.Steps), uint64(pushes+1+x.steps))
			wantNumber(t, fmt.Sprintf("%s, opcode %x: deepest", what, op), uint64(r.Deepest), uint64(x.depth))
			m.Depth = 100
			r = do(over(coded(target, calling(op, x.to, 0, 50000, 0)), coded(helper, x.code)), m)
			wantNumber(t, fmt.Sprintf("%s, opcode %x: deepest from 100", what, op), uint64(r.Deepest), uint64(100+x.depth))
		}
	}
}

// P17.6: of several messages within the deepest one counts, wherever it stands, and all instructions do.
func TestCountsOfSeveral(t *testing.T) {
	third, fourth := api.Address{0: 0xee, 19: 0x27}, api.Address{0: 0xee, 19: 0x28}
	deep, flat := calling(0xf1, helper, 0, 500000, 0), calling(0xf1, fourth, 0, 500000, 0)
	for what, code := range map[string][]byte{"the deepest first": slices.Concat(deep, flat), "the deepest last": slices.Concat(flat, deep)} {
		for own, end := range map[int][]byte{1: stop(), 3: revert(0)} {
			r := do(over(
				coded(target, code, end), coded(helper, calling(0xf1, third, 0, 100000, 0)), coded(third, storing(1, 1)), coded(fourth, raw(0x5f, 0x5f, 0x5f)),
			), to(api.MsgCall))
			wantNumber(t, what+": deepest", uint64(r.Deepest), 2)
			wantNumber(t, what+": steps", uint64(r.Steps), uint64(8+(8+1)+(3+1)+8+(3+1)+own))
		}
	}
}

// P17.6: creations count as calls do; init code that isn't there is a STOP that runs.
func TestCountsOfCreations(t *testing.T) {
	for _, op := range []byte{0xf0, 0xf5} {
		own := 4
		if op == 0xf5 {
			own = 5
		}
		for what, x := range map[string]struct {
			init         []byte
			steps, depth int
		}{
			"nothing": {nil, 1, 1}, "STOP": {stop(), 4, 1}, "a revert": {revert(0), 3 + 9, 1},
			"a call": {calling(0xf1, helper, 0, 50000, 0), 9 + 2 + 3*8, 2},
		} {
			r := do(over(coded(target, making(op, 0, x.init)), coded(helper, raw(0x5f))), to(api.MsgCall))
			wantErr(t, what, r, api.OK)
			wantNumber(t, fmt.Sprintf("%s, opcode %x: steps", what, op), uint64(r.Steps), uint64(own+1+x.steps))
			wantNumber(t, fmt.Sprintf("%s, opcode %x: deepest", what, op), uint64(r.Deepest), uint64(x.depth))
		}
	}
	m := creating()
	m.Depth = 12
	wantResult(t, "no init code", do(over(), m), api.Result{Gas: enough, Made: call.Made(sender, firstNonce), Steps: 1, Deepest: 12})
}

// P17.6: what fails early has run nothing, within as without.
func TestCountsOfEarly(t *testing.T) {
	for what, code := range map[string][]byte{"no funds": calling(0xf1, helper, 5000, 50000, 0), "a creation without funds": making(0xf0, 5000)} {
		r := do(over(coded(target, code), coded(helper, stop())), to(api.MsgCall))
		wantNumber(t, what+": deepest", uint64(r.Deepest), 0)
		wantTrue(t, what+": steps", r.Steps == 9 || r.Steps == 5)
	}
}
