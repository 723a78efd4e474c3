package state_test

import (
	"math"
	"testing"

	"cairn/api"
	"cairn/state"
)

func TestWarm(t *testing.T) { // P13.8
	s := over(some()...)
	for _, a := range addresses() {
		wantTrue(t, "not yet", !s.Warm(a))
		wantTrue(t, "from now on", s.Warm(a) && s.Warm(a))
		for _, k := range keys() {
			wantTrue(t, "a slot, not yet", !s.WarmSlot(a, k))
			wantTrue(t, "a slot, from now on", s.WarmSlot(a, k) && s.WarmSlot(a, k))
		}
	}
	wantTrue(t, "others", !s.Warm(api.Address{5}) && !s.WarmSlot(address(0), w(5)) && !s.WarmSlot(api.Address{5}, key(0)))
	wantTold(t, "warm", s, told(newModel(some())))
	s.End()
	wantTrue(t, "cold", !s.Warm(address(0)) && !s.WarmSlot(address(0), key(0)))
	s = over(some()...)
	s.WarmSlot(address(0), key(0))
	wantTrue(t, "a slot does not warm its account", !s.Warm(address(0)))
	s.Warm(address(1))
	wantTrue(t, "nor the other way round", !s.WarmSlot(address(1), key(0)))
}

func TestLogs(t *testing.T) { // P13.8
	s := over(some()...)
	wantText(t, "none", logsText(s.Logs()), "")
	l := []api.Log{
		{Address: address(4)}, {Address: address(0), Topics: []api.Hash{{1}, {2}}, Data: []byte("data")}, {}, {Data: []byte{0}},
		{Address: address(0), Topics: []api.Hash{{1}, {2}}, Data: []byte("data")}, {Topics: make([]api.Hash, 9)},
	}
	for i, x := range l {
		s.Tell(x)
		wantText(t, "in their order", logsText(s.Logs()), logsText(l[:i+1]))
	}
	mark := s.Mark()
	s.Tell(api.Log{Data: []byte("more")})
	s.Tell(api.Log{Data: []byte("and more")})
	must(t, s.Back(mark))
	wantText(t, "taken back", logsText(s.Logs()), logsText(l))
	s.Tell(api.Log{Data: []byte("other")})
	wantText(t, "told again", logsText(s.Logs()), logsText(append(l, api.Log{Data: []byte("other")})))
	wantTrue(t, "nothing is made", !s.Exists(address(4)))
	wantChanges(t, "nothing is changed", s.Changes())
	s.End()
	wantText(t, "another transaction", logsText(s.Logs()), "")
}

func TestRefund(t *testing.T) { // P13.8
	const least, greatest = math.MinInt64, math.MaxInt64
	for _, x := range []struct {
		by   []int
		want uint64
	}{
		{nil, 0}, {[]int{0}, 0}, {[]int{5}, 5}, {[]int{5, 7}, 12}, {[]int{5, -3}, 2}, {[]int{5, -5}, 0},
		{[]int{-1}, 0}, {[]int{5, -6}, 0}, {[]int{5, -6, 2}, 2}, {[]int{least}, 0}, {[]int{greatest, least}, 0}, {[]int{5, least, 1}, 1},
		{[]int{greatest}, greatest}, {[]int{greatest, 1}, greatest}, {[]int{1, greatest}, greatest}, {[]int{greatest, greatest}, greatest},
		{[]int{greatest, greatest, -1}, greatest - 1}, {[]int{greatest, -greatest}, 0}, {[]int{greatest - 1, 1}, greatest}, {[]int{greatest, -1, 1}, greatest},
	} {
		s := state.New(nil)
		for _, by := range x.by {
			s.AddRefund(by)
		}
		if s.Refund() != x.want {
			t.Errorf("%v: %d, want %d", x.by, s.Refund(), x.want)
		}
		mark := s.Mark()
		s.AddRefund(greatest)
		s.AddRefund(-9)
		s.AddRefund(least)
		must(t, s.Back(mark))
		if s.Refund() != x.want {
			t.Errorf("%v, back: %d, want %d", x.by, s.Refund(), x.want)
		}
	}
}
