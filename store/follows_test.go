package store_test

import (
	"fmt"
	"testing"

	"cairn/api"
	"cairn/store"
)

func TestAsAMap(t *testing.T) { // P11.9, P11.10: whatever is flushed, compacted and opened again between
	for seed := range 400 {
		r := source(seed)
		s, d := opened(t, api.Plan{})
		want := has{}
		for step := range 60 {
			what := fmt.Sprint("seed ", seed, ", step ", step)
			switch r.below(9) {
			case 0:
				wantErrno(t, what, s.Flush(), api.OK)
			case 1:
				wantErrno(t, what, s.Compact(), api.OK)
			case 2:
				s = reopened(t, d)
			case 3:
				again, e := store.Open(d)
				wantErrno(t, what, e, api.OK)
				s = again
			default:
				l := r.puts()
				wantErrno(t, what, s.Write(l), api.OK)
				want = want.with(l...)
			}
			wantHas(t, what, s, want)
			from := r.text(r.below(3))
			part := has{}
			for key, value := range want {
				if key >= from {
					part[key] = value
				}
			}
			wantText(t, what, tell(s.Each(from)), part.text())
			if t.Failed() {
				t.FailNow()
			}
		}
	}
}

func TestNothingSeen(t *testing.T) { // P11.9: Flush and Compact at every place of one row of Writes
	r := source(7)
	var rows [][]api.Put
	for range 6 {
		rows = append(rows, r.puts())
	}
	for works := range 1 << (2 * len(rows)) { // of each Write: nothing, Flush, Compact or both behind it
		s, d := opened(t, api.Plan{})
		want := has{}
		for i, l := range rows {
			must(t, s.Write(l))
			want = want.with(l...)
			if works>>(2*i)&1 == 1 {
				must(t, s.Flush())
			}
			if works>>(2*i)&2 == 2 {
				must(t, s.Compact())
			}
			if got := tell(s.Each("")); got != want.text() || s.Len() != len(want) {
				t.Fatalf("works %b, Write %d: %s, want %s", works, i, got, want.text())
			}
		}
		if works%16 == 0 {
			wantHas(t, "opened again", reopened(t, d), want)
		}
	}
}

func TestMuch(t *testing.T) { // P11.10: many keys, in all orders
	for _, order := range []func(int) int{
		func(i int) int { return i },
		func(i int) int { return 19999 - i },
		func(i int) int { return i * 7919 % 20000 },
	} {
		s, d := opened(t, api.Plan{})
		want := has{}
		for i := range 20000 {
			p := put(fmt.Sprintf("%05d", order(i)), fmt.Sprint(i))
			if i%7 == 3 {
				p = gone(fmt.Sprintf("%05d", order(i-2)))
			}
			must(t, s.Write([]api.Put{p}))
			want[p.Key] = string(p.Value)
			if p.Gone {
				delete(want, p.Key)
			}
			if i == 5000 || i == 9000 {
				must(t, s.Flush())
			}
		}
		wantHas(t, "much", s, want)
		wantHas(t, "much, opened again", reopened(t, d), want)
	}
}
