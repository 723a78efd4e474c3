package state_test

import (
	"fmt"
	"testing"

	"cairn/api"
	"cairn/state"
)

func TestMarks(t *testing.T) { // P13.9
	s := over(some()...)
	for i := range 5 {
		if mark := s.Mark(); mark != i {
			t.Errorf("mark %d: %d", i, mark)
		}
	}
	for _, mark := range []int{-1, 5, 6, 1 << 62, -1 << 63} {
		wantErrno(t, fmt.Sprint("no mark ", mark), s.Back(mark), api.ErrRange)
	}
	must(t, s.Back(4)) // the last
	wantErrno(t, "it is none any more", s.Back(4), api.ErrRange)
	must(t, s.Back(1))
	for mark := 1; mark < 5; mark++ {
		wantErrno(t, "those behind it are none", s.Back(mark), api.ErrRange)
	}
	wantTrue(t, "the next one", s.Mark() == 1)
	must(t, s.Back(0)) // the first
	wantErrno(t, "none is left", s.Back(0), api.ErrRange)
	wantTrue(t, "the first again", s.Mark() == 0)
}

func TestMarksWithinMarks(t *testing.T) { // P13.9
	s := over(some()...)
	a := address(1)
	for i := range 6 {
		s.Mark()
		must(t, s.Add(a, w(1<<i)))
		s.SetSlot(a, key(i), w(uint64(i+1)))
	}
	must(t, s.Back(4))
	wantWord(t, "back to 4", s.Balance(a), w(5+15))
	wantWord(t, "back to 4", s.Slot(a, key(3)), w(4))
	wantWord(t, "back to 4", s.Slot(a, key(4)), w(0))
	must(t, s.Add(a, w(100)))
	s.Mark()
	must(t, s.Add(a, w(1000)))
	must(t, s.Back(2))
	wantWord(t, "back to 2", s.Balance(a), w(5+3))
	must(t, s.Back(0))
	wantTold(t, "back to 0", s, told(newModel(some())))
}

func TestBackOfAnErrorChangesNothing(t *testing.T) { // P13.9, P4
	s := over(some()...)
	s.Mark()
	busy(s) // two marks more
	before := told(s)
	for _, mark := range []int{-1, 3, 1 << 62} {
		wantErrno(t, "no mark", s.Back(mark), api.ErrRange)
	}
	wantTold(t, "no mark", s, before)
	must(t, s.Back(2))
	wantTold(t, "nothing since", s, before)
	must(t, s.Back(0))
	wantText(t, "all is back", told(s)+rest(s), told(over(some()...))+rest(over(some()...)))
}

func TestBackBehindBeginAndEnd(t *testing.T) { // P13.9, P13.5
	for what, do := range map[string]func(s *state.State){"Begin": (*state.State).Begin, "End": (*state.State).End} {
		s := over(some()...)
		s.Mark()
		s.SetNonce(address(1), 5)
		do(s)
		wantErrno(t, what, s.Back(0), api.ErrRange)
		wantTrue(t, what+": it stays", s.Nonce(address(1)) == 5)
		wantTrue(t, what+": the first mark", s.Mark() == 0)
		s.SetNonce(address(1), 6)
		must(t, s.Back(0))
		wantTrue(t, what+": back to the new one", s.Nonce(address(1)) == 5)
	}
}

func TestEachIsTakenBack(t *testing.T) { // P13.9, P13.12: everything that P13.7 and P13.8 do, one by one, once and twice
	for name, x := range everyStep() {
		for _, times := range []int{1, 2} {
			for _, ahead := range []bool{false, true} { // also where the same was done ahead of the mark
				for i, a := range addresses() {
					s, other := over(some()...), over(some()...)
					for _, y := range []*state.State{s, other} {
						y.Mark()
						if ahead {
							x(y, a, key(i))
						}
					}
					mark := s.Mark()
					for range times {
						x(s, a, key(i))
					}
					must(t, s.Back(mark))
					wantTold(t, name, s, told(other))
					wantTrue(t, name+": marks", s.Mark() == other.Mark())
					wantText(t, name+": the rest", rest(s), rest(other))
				}
			}
		}
	}
}

// everyStep is all that P13.7 and P13.8 do.
func everyStep() map[string]func(s stating, a api.Address, k api.Word) {
	type do = func(s stating, a api.Address, k api.Word)
	return map[string]do{
		"SetNonce":       func(s stating, a api.Address, k api.Word) { s.SetNonce(a, s.Nonce(a)+1) },
		"SetCode":        func(s stating, a api.Address, k api.Word) { s.SetCode(a, append(s.Code(a), 'x')) },
		"SetCode none":   func(s stating, a api.Address, k api.Word) { s.SetCode(a, nil) },
		"Add":            func(s stating, a api.Address, k api.Word) { s.Add(a, w(3)) },
		"Sub":            func(s stating, a api.Address, k api.Word) { s.Sub(a, w(2)) },
		"Sub all":        func(s stating, a api.Address, k api.Word) { s.Sub(a, s.Balance(a)) },
		"SetSlot":        func(s stating, a api.Address, k api.Word) { s.SetSlot(a, k, api.Word{s.Slot(a, k)[0] + 1}) },
		"SetSlot 0":      func(s stating, a api.Address, k api.Word) { s.SetSlot(a, k, w(0)) },
		"SetPassing":     func(s stating, a api.Address, k api.Word) { s.SetPassing(a, k, api.Word{s.Passing(a, k)[0] + 1}) },
		"Create":         func(s stating, a api.Address, k api.Word) { s.Create(a) },
		"Create, filled": func(s stating, a api.Address, k api.Word) { s.Create(a); s.SetNonce(a, 1); s.SetSlot(a, k, w(5)) },
		"Destroy":        func(s stating, a api.Address, k api.Word) { s.Create(a); s.SetNonce(a, 1); s.Destroy(a) },
		"Destroy alone":  func(s stating, a api.Address, k api.Word) { s.Destroy(a) },
		"Touch":          func(s stating, a api.Address, k api.Word) { s.Touch(a) },
		"Warm":           func(s stating, a api.Address, k api.Word) { s.Warm(a) },
		"WarmSlot":       func(s stating, a api.Address, k api.Word) { s.WarmSlot(a, k) },
		"Tell":           func(s stating, a api.Address, k api.Word) { s.Tell(api.Log{Address: a}) },
		"AddRefund":      func(s stating, a api.Address, k api.Word) { s.AddRefund(9) },
		"AddRefund less": func(s stating, a api.Address, k api.Word) { s.AddRefund(-4) },
	}
}
