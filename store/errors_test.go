package store_test

import (
	"fmt"
	"slices"
	"testing"

	"cairn/api"
	"cairn/disk"
	"cairn/store"
)

// standing is a store with two segments, a log of two batches and files that an error left in its way, and what it has.
func standing(t *testing.T) (*store.Store, *disk.Disk, has) {
	t.Helper()
	s, d := opened(t, api.Plan{})
	puts := []api.Put{put("a", "1"), put("b", "1"), gone("a"), put("c", "3"), put("b", "4"), gone("x"), put("d", "5")}
	must(t, s.Write(puts[:2]), s.Flush(), s.Write(puts[2:4]), s.Flush(), s.Write(puts[4:6]), s.Write(puts[6:]))
	must(t, d.Create("SEG-0000000003"), d.Create("MANIFEST.new"))
	return s, d, has{}.with(puts...)
}

// more are the puts that the calls below write.
func more() []api.Put { return []api.Put{put("a", "new"), gone("c"), put("e", "new")} }

// calls are the calls that change something, and whether what they do is seen.
func calls() map[string]func(s *store.Store) api.Errno {
	return map[string]func(*store.Store) api.Errno{
		"Write":   func(s *store.Store) api.Errno { return s.Write(more()) },
		"Flush":   (*store.Store).Flush,
		"Compact": (*store.Store).Compact,
	}
}

// after is what a store has behind a call that answers OK.
func after(call string, h has) has {
	if call == "Write" {
		return h.with(more()...)
	}
	return h
}

// fault is a plan that has an operation answer an error.
type fault struct {
	plan api.Plan
	want api.Errno
}

func faults(n int) []fault {
	return []fault{{api.Plan{Fail: []int{n}}, api.ErrIO}, {api.Plan{Full: []int{n}}, api.ErrFull}, {api.Plan{Crash: n}, api.ErrDead},
		{api.Plan{Crash: n, Keep: []int{-1}}, api.ErrDead}, {api.Plan{Crash: n, Keep: []int{7}}, api.ErrDead}}
}

// operations counts those of a call.
func operations(t *testing.T, call func(*store.Store) api.Errno) int {
	t.Helper()
	s, d, _ := standing(t)
	must(t, d.Start(api.Plan{}), call(s))
	return d.Ops()
}

func TestErrorsAtEachOperation(t *testing.T) { // P11.2
	wantNumbers := map[string]int{"Write": 2, "Flush": 2 + 9, "Compact": 2 + 9 + 7 + 3}
	for name, call := range calls() {
		ops := operations(t, call)
		if ops != wantNumbers[name] {
			t.Errorf("%s: %d operations, want %d", name, ops, wantNumbers[name])
		}
		for n := 1; n <= ops; n++ {
			for _, f := range faults(n) {
				for next, then := range calls() {
					what := fmt.Sprint(name, " at ", n, ", ", f.want, ", then ", next)
					s, d, want := standing(t)
					must(t, d.Start(f.plan))
					e := call(s)
					if e == api.OK && f.want == api.ErrFull { // Sync, Rename and Remove need no room
						continue
					}
					wantErrno(t, what, e, f.want)
					wantOps(t, what, d, n)
					wantHas(t, what+": as it was", s, want)
					if d.Dead() {
						wantErrno(t, what+": dead", s.Write(more()), api.ErrDead)
						wantHas(t, what+": dead", s, want)
						must(t, d.Start(api.Plan{}))
					}
					wantErrno(t, what+": goes on", then(s), api.OK)
					want = after(next, want)
					wantHas(t, what+": goes on", s, want)
					wantErrno(t, what+": again", call(s), api.OK)
					want = after(name, want)
					wantHas(t, what+": again", s, want)
					wantHas(t, what+": opened again", reopened(t, d), want)
				}
			}
		}
	}
}

func TestErrorsLeaveNoFiles(t *testing.T) { // P11.2, P11.3: behind Compact and Open there are no more than a store has that saw no error
	for name, call := range calls() {
		for n := range operations(t, call) {
			for _, f := range faults(n + 1) {
				s, d, want := standing(t)
				must(t, d.Start(f.plan))
				e := call(s)
				if d.Dead() {
					must(t, d.Start(api.Plan{}))
				}
				if e == api.OK {
					want = after(name, want)
				}
				must(t, s.Compact())
				s = reopened(t, d)
				wantHas(t, name, s, want)
				if s.Segments() != 1 || len(d.Files()) != 3 {
					t.Errorf("%s at %d: %d segments, %q", name, n+1, s.Segments(), d.Files())
				}
			}
		}
	}
}

func TestErrorsOfFlushAtTheLog(t *testing.T) { // P11.6: the manifest's change is done; only Reset is told
	s, d, want := standing(t)
	must(t, d.Start(api.Plan{Fail: []int{10}}))
	wantErrno(t, "at Truncate", s.Flush(), api.ErrIO)
	wantCounts(t, "at Truncate", s, 3, 2)
	wantHas(t, "at Truncate", s, want)
	wantHas(t, "at Truncate, opened again", reopened(t, d.Clone()), want)
	must(t, s.Flush())
	wantCounts(t, "again", s, 4, 0) // the log had batches

	s, d, want = standing(t)
	must(t, d.Start(api.Plan{Fail: []int{11}}))
	wantErrno(t, "at Sync", s.Flush(), api.ErrIO)
	wantCounts(t, "at Sync", s, 3, 0)
	wantHas(t, "at Sync", s, want)
	wantHas(t, "at Sync, opened again", reopened(t, d.Clone()), want)
	must(t, s.Flush())
	wantCounts(t, "again", s, 3, 0)
	wantOps(t, "again", d, 11)
	must(t, s.Write(more()))
	wantOps(t, "a Write that makes the cut safe", d, 11+4)
	wantHas(t, "a Write that makes the cut safe", reopened(t, d), want.with(more()...))
}

func TestErrorsOfOpen(t *testing.T) { // P11.2, P11.3: each operation, on an empty disk and on one where there is much to do
	_, standing, want := standing(t)
	must(t, standing.Create("SEG-x"), standing.Append("LOG", []byte("torn")), standing.Sync("LOG"))
	for what, x := range map[string]struct {
		d    *disk.Disk
		want has
		ops  int
	}{
		"an empty disk":            {disk.New(api.Plan{}), nil, 5},
		"a draft":                  {laid(t, files{"MANIFEST.new": []byte("d")}, api.Plan{}), nil, 6},
		"a store":                  {standing, want, 3 + 2},
		"a manifest without a log": {laid(t, files{"MANIFEST": manifestOf(1)}, api.Plan{}), nil, 1},
	} {
		for n := range x.ops {
			for _, f := range faults(n + 1) {
				d := x.d.Clone()
				must(t, d.Start(f.plan))
				s, e := store.Open(d)
				if e == api.OK && f.want == api.ErrFull {
					continue
				}
				wantErrno(t, fmt.Sprint(what, " at ", n+1), e, f.want)
				wantOps(t, fmt.Sprint(what, " at ", n+1), d, n+1)
				if s != nil {
					t.Errorf("%s at %d: a store beside the error", what, n+1)
				}
				if d.Dead() {
					wantRefused(t, what+": dead", d, api.ErrDead)
					must(t, d.Start(api.Plan{}))
				}
				s, e = store.Open(d)
				wantErrno(t, what+": again", e, api.OK)
				wantHas(t, what+": again", s, x.want)
				must(t, s.Write(more()))
				wantHas(t, what+": goes on", reopened(t, d), x.want.with(more()...))
			}
		}
		d := x.d.Clone()
		must(t, d.Start(api.Plan{}))
		wantOpened(t, what, d, x.want, reopened(t, x.d.Clone()).Segments(), reopened(t, x.d.Clone()).Pending())
		wantOps(t, what, d, x.ops)
	}
}

func TestErrorsOfAFullDisk(t *testing.T) { // P11.2: no room, then room again
	s, d, want := standing(t)
	total := 0
	for _, f := range d.Files() {
		total += len(f.Data)
	}
	must(t, d.Start(api.Plan{Room: total}))
	wantErrno(t, "no room to Write", s.Write(more()), api.ErrFull)
	wantErrno(t, "no room to Flush", s.Flush(), api.ErrFull)
	wantErrno(t, "no room to Compact", s.Compact(), api.ErrFull)
	wantHas(t, "no room", s, want)
	wantCounts(t, "no room", s, 2, 2)
	must(t, d.Start(api.Plan{}), s.Write(more()), s.Flush(), s.Compact())
	wantHas(t, "room again", s, want.with(more()...))
	wantHas(t, "opened again", reopened(t, d), want.with(more()...))
}

func TestErrorsOfTooManyFiles(t *testing.T) { // P11.2: Create's ErrLong, of the segment and of the draft
	for free := range 2 {
		s, d := opened(t, api.Plan{})
		must(t, s.Write([]api.Put{put("a", "1")}))
		for i := range api.MaxFiles - 2 - free {
			must(t, d.Create(fmt.Sprint(i)))
		}
		wantErrno(t, "MaxFiles", s.Flush(), api.ErrLong)
		wantHas(t, "MaxFiles", s, has{"a": "1"})
		wantCounts(t, "MaxFiles", s, 0, 1)
		must(t, d.Remove("0"), d.Remove("1"), s.Flush())
		wantHas(t, "room again", s, has{"a": "1"})
		wantCounts(t, "room again", s, 1, 0)
		wantHas(t, "opened again", reopened(t, d), has{"a": "1"})
	}
}

func TestErrorsTwice(t *testing.T) { // P11.2: two operations of the disk, anywhere in a row of calls that are made till they answer OK
	row := []string{"Write", "Flush", "Write", "Flush", "Compact", "Write", "Compact"}
	for first := 1; first < 75; first++ {
		for second := first + 1; second < first+12; second++ {
			s, d, want := standing(t)
			must(t, d.Start(api.Plan{Fail: []int{first, second}}))
			seen := 0
			for _, name := range row {
				for calls()[name](s) != api.OK {
					seen++
					wantHas(t, "an error", s, want)
				}
				want = after(name, want)
				wantHas(t, "at last", s, want)
			}
			if d.Ops() >= second && seen != 2 {
				t.Errorf("errors at %d, %d: %d were told", first, second, seen)
			}
			wantHas(t, fmt.Sprint("errors at ", first, ", ", second, ", opened again"), reopened(t, d), want)
			if t.Failed() {
				t.FailNow()
			}
		}
	}
}

func TestErrorsAreNotMixedUp(t *testing.T) { // P4, P11.5: what is wrong with the puts comes ahead of the disk's errors
	s, d, want := standing(t)
	must(t, d.Start(api.Plan{Fail: []int{1, 2, 3}}))
	wantErrno(t, "no key", s.Write(slices.Concat(more(), []api.Put{put("", "")})), api.ErrKey)
	wantErrno(t, "too many", s.Write(many(api.MaxBatch+1)), api.ErrLong)
	wantOps(t, "nothing is asked of the disk", d, 0)
	wantErrno(t, "the disk's", s.Write(more()), api.ErrIO)
	wantHas(t, "the disk's", s, want)
}
