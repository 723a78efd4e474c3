package call_test

import (
	"bytes"
	"fmt"
	"slices"
	"testing"

	"cairn/api"
	"cairn/call"
)

// P2: nothing that a message, or what its code sees, has is changed, nor what lies behind a list's length.
func TestNothingGivenIsChanged(t *testing.T) {
	works := slices.Concat(with(0x37, w(0), w(0), w(32)), with(0x52, w(0), w(1)), with(0x40, w(999)), raw(0x50), returned(64))
	for _, k := range kinds() {
		for _, a := range []api.Address{target, echo, bare, absent} {
			s, m, e := over(coded(target, works)), to(k), newEnv()
			m.To = a
			if k == api.MsgCreate || k == api.MsgCreate2 {
				m.Input = works
			}
			m.Input = roomy(m.Input, 0xaa, 0xbb, 0xcc)
			e.Blobs, e.Hashes = roomy(e.Blobs, api.Hash{0xaa}), roomy(e.Hashes, api.Hash{0xbb})
			input, blobs, hashes := slices.Clone(m.Input[:cap(m.Input)]), slices.Clone(e.Blobs[:cap(e.Blobs)]), slices.Clone(e.Hashes[:cap(e.Hashes)])
			r := call.Do(s, e, m)
			wantErr(t, fmt.Sprintf("kind %d", k), r, api.OK)
			spoil(r.Out, 0x77)
			wantBytes(t, "the input", m.Input[:cap(m.Input)], input)
			wantTrue(t, "the hashes", slices.Equal(e.Blobs[:cap(e.Blobs)], blobs) && slices.Equal(e.Hashes[:cap(e.Hashes)], hashes))
		}
	}
	init := roomy([]byte{1, 2}, 3, 4)
	call.Made2(sender, w(1), init)
	wantBytes(t, "the init code", init[:4], []byte{1, 2, 3, 4})
}

// P2: what is answered shares nothing with what was given, with the state, or with another answer.
func TestAnswersAreTheirOwn(t *testing.T) {
	tells := slices.Concat(with(0x37, w(0), w(0), w(64)), returned(64))
	input := bytes.Repeat([]byte{0x5a}, 64)
	for _, a := range []api.Address{target, echo} {
		s, m := over(coded(target, tells)), to(api.MsgCall)
		m.To, m.Input = a, slices.Clone(input)
		first, second := do(s, m), do(s, m)
		spoil(m.Input, 1)
		wantBytes(t, "behind a change of the input", first.Out, input)
		spoil(first.Out, 2)
		wantBytes(t, "behind a change of the other", second.Out, input)
		wantBytes(t, "the code", s.Code(target), tells)
	}
}

// P2: what is kept shares nothing with what was given or is answered.
func TestStateIsItsOwn(t *testing.T) {
	code := bytes.Repeat([]byte{0x5b}, 50)
	m := creating(giving(code))
	s := over()
	r := do(s, m)
	spoil(m.Input, 1)
	wantBytes(t, "the code that was made", s.Code(r.Made), code)
	tells := slices.Concat(with(0x37, w(0), w(0), w(32)), with(0xa0, w(0), w(32)), returned(32))
	s, m = over(coded(target, tells)), to(api.MsgCall)
	m.Input = bytes.Repeat([]byte{0x11}, 32)
	r = do(s, m)
	spoil(m.Input, 1)
	spoil(r.Out, 2)
	wantBytes(t, "what was told", s.Logs()[0].Data, bytes.Repeat([]byte{0x11}, 32))
	s = over(coded(target, with(0x37, w(0), w(0), w(32)), revert(32)))
	m.Input = bytes.Repeat([]byte{0x11}, 32)
	r = do(s, m)
	spoil(m.Input, 1)
	wantBytes(t, "what was taken back", r.Out, bytes.Repeat([]byte{0x11}, 32))
}

// P3: a nil slice and an empty one are the same.
func TestNilIsEmpty(t *testing.T) {
	wantAddress(t, "Made2", call.Made2(sender, w(1), nil), call.Made2(sender, w(1), []byte{}))
	for _, k := range kinds() {
		for _, a := range []api.Address{target, echo, bare} {
			m := to(k)
			m.To = a
			text := ""
			for _, input := range [][]byte{nil, {}, roomy(nil, byte(1), 2)} {
				s := over(coded(target, telling(raw(0x36), with(0x35, w(0)))))
				m.Input = input
				got := resultText(call.Do(s, api.Env{Hashes: []api.Hash{}, Blobs: nil}, m)) + endText(s)
				if text == "" {
					text = got
				}
				wantText(t, fmt.Sprintf("kind %d", k), got, text)
			}
		}
	}
}

// P3: the same message over the same state comes to the same, however often it is sent.
func TestSameAgain(t *testing.T) {
	code := slices.Concat(storing(1, 1), making(0xf0, 1, giving(raw(0x5b))), calling(0xf1, bare, 1, 0, 0), returned(5))
	for _, k := range kinds() {
		text := ""
		for range 5 {
			s, m := over(coded(target, code)), to(k)
			if k == api.MsgCreate || k == api.MsgCreate2 {
				m.Input = code
			}
			got := resultText(do(s, m)) + endText(s)
			if text == "" {
				text = got
			}
			wantText(t, fmt.Sprintf("kind %d", k), got, text)
		}
	}
}
