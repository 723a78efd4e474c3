package store_test

import (
	"fmt"
	"maps"
	"slices"
	"strings"
	"testing"

	"cairn/api"
	"cairn/disk"
	"cairn/store"
)

// run is a script under way, with what may be found behind a crash.
type run struct {
	d      *disk.Disk
	s      *store.Store // nil, if the disk failed Open
	told   has          // what the store has
	may    []string     // the texts of what may be found, by P11.8
	writes int          // how many Writes there were
}

// begin opens a store on a new disk, which goes by plan p from its first operation on.
func begin(p api.Plan) *run {
	r := &run{d: disk.New(p), told: has{}, may: []string{""}}
	r.s, _ = store.Open(r.d)
	return r
}

// puts are those of the next Write: like no others, of as many bytes, with a key that every Write puts, one that every other takes away,
// one of its own, and one twice.
func (r *run) puts() []api.Put {
	r.writes++
	n := string(rune('A' + r.writes%26))
	l := []api.Put{put("every", n), put("other", n), put("own"+n, n), put("own"+n, n+n)}
	if r.writes%2 == 0 {
		l[1] = api.Put{Key: "other", Gone: true}
	}
	return l
}

// mayBe takes a text among those that may be found.
func (r *run) mayBe(h has) {
	if s := h.text(); !slices.Contains(r.may, s) {
		r.may = append(r.may, s)
	}
}

// write writes; one that the disk fails, or dies in, may be found as long as no other one answered OK.
func (r *run) write() {
	l := r.puts()
	if r.s.Write(l) == api.OK {
		r.told, r.may = r.told.with(l...), nil
		r.mayBe(r.told)
		return
	}
	r.mayBe(r.told.with(l...))
}

// open opens the store anew, on a disk that has not died.
func (r *run) open(t *testing.T, what string) {
	t.Helper()
	s, e := store.Open(r.d)
	if r.s = s; e != api.OK {
		return
	}
	told := tell(s.Each(""))
	if !slices.Contains(r.may, told) {
		t.Fatalf("%s: found %s, want one of %q", what, told, r.may)
	}
	r.told = has{}
	for key, value := range s.Each("") {
		r.told[key] = string(value)
	}
}

// do does a script: W writes, F flushes, C compacts, O opens on the living disk.
func (r *run) do(t *testing.T, script string) {
	t.Helper()
	for _, step := range script {
		switch {
		case r.d.Dead():
			return
		case r.s == nil || step == 'O':
			r.open(t, script)
		case step == 'W':
			r.write()
		case step == 'F':
			r.s.Flush()
		case step == 'C':
			r.s.Compact()
		}
		if r.s != nil && tell(r.s.Each("")) != r.told.text() {
			t.Fatalf("%s: the store has %s, want %s", script, tell(r.s.Each("")), r.told.text())
		}
	}
}

// wantFound holds what is found behind a crash against what may be found, and lets the store that is found go on.
func (r *run) wantFound(t *testing.T, what string) {
	t.Helper()
	found := reopened(t, r.d)
	told := tell(found.Each(""))
	if !slices.Contains(r.may, told) {
		t.Fatalf("%s: found %s, want one of %q", what, told, r.may)
	}
	want := has{}
	for key, value := range found.Each("") {
		want[key] = string(value)
	}
	if found.Len() != len(want) {
		t.Fatalf("%s: Len %d, want %d", what, found.Len(), len(want))
	}
	l := []api.Put{put("last", "l"), gone("every")}
	must(t, found.Write(l), found.Flush(), found.Compact())
	if told := tell(reopened(t, r.d).Each("")); told != want.with(l...).text() {
		t.Fatalf("%s: gone on: found %s, want %s", what, told, want.with(l...).text())
	}
}

// scripts are all scripts of so many of these steps.
func scripts(steps string, long int) []string {
	if long == 0 {
		return []string{""}
	}
	var l []string
	for _, s := range scripts(steps, long-1) {
		for _, step := range steps {
			l = append(l, s+string(step))
		}
	}
	return l
}

// dies runs a script on a disk that dies at an operation, with nothing of what was not synced, and tells whether it died.
func dies(t *testing.T, script string, p api.Plan) (*run, bool) {
	t.Helper()
	r := begin(p)
	r.do(t, script)
	return r, r.d.Dead()
}

// keeps are plans' Keeps that let every beginning survive of what was not synced when the disk dies, and all of it. They are few where
// all was synced.
func keeps(t *testing.T, script string, p api.Plan) [][]int {
	t.Helper()
	p.Keep = []int{-1}
	most, _ := dies(t, script, p)
	p.Keep = nil
	least, _ := dies(t, script, p)
	l := [][]int{nil, {-1}}
	if maps.EqualFunc(lies(most.d), lies(least.d), slices.Equal) {
		return l
	}
	for n := 1; n < 120; n++ { // no write of these scripts is longer
		l = append(l, []int{n})
	}
	return l
}

func TestDurable(t *testing.T) { // P11.8: deaths at each operation, whatever survives
	deaths := 0
	for _, script := range slices.Concat(scripts("WFC", 1), scripts("WFC", 2), scripts("WFC", 3), scripts("WFC", 4), []string{"WFWFWC", "WCWCFW"}) {
		for crash := 1; ; crash++ {
			if _, died := dies(t, script, api.Plan{Crash: crash}); !died {
				break
			}
			for _, keep := range keeps(t, script, api.Plan{Crash: crash}) {
				r, _ := dies(t, script, api.Plan{Crash: crash, Keep: keep})
				r.wantFound(t, fmt.Sprint(script, " dies at ", crash, ", keeps ", keep))
				deaths++
			}
		}
	}
	if deaths < 5000 {
		t.Errorf("only %d deaths", deaths)
	}
}

func TestDurableInOpen(t *testing.T) { // P11.8: deaths at each operation of the Open behind a death, and of the Open behind that
	for _, script := range []string{"", "W", "WF", "WFWC", "WWFWFCW"} {
		for crash := 1; ; crash++ {
			if _, died := dies(t, script, api.Plan{Crash: crash}); !died {
				break
			}
			for _, keep := range [][]int{nil, {-1}, {1}, {20}, {33}, {48}} {
				r, _ := dies(t, script, api.Plan{Crash: crash, Keep: keep})
				r.wantFoundBehindDeaths(t, fmt.Sprint(script, " dies at ", crash, ", keeps ", keep), 2)
			}
		}
	}
}

// wantFoundBehindDeaths is as wantFound, with deaths at each operation of so many Opens ahead of it, and every beginning kept of what
// these wrote.
func (r *run) wantFoundBehindDeaths(t *testing.T, what string, opens int) {
	t.Helper()
	for crash := 1; opens > 0; crash++ {
		none, died := r.diesInOpen(t, crash, 0)
		if !died {
			break
		}
		most := 0
		if all, _ := r.diesInOpen(t, crash, -1); !maps.EqualFunc(lies(all.d), lies(none.d), slices.Equal) {
			most = 17 // a manifest without segments has 16 bytes
		}
		for keep := -1; keep <= most; keep++ {
			twin, _ := r.diesInOpen(t, crash, keep)
			twin.wantFoundBehindDeaths(t, fmt.Sprint(what, ", Open dies at ", crash, ", keeps ", keep), opens-1)
		}
	}
	r.wantFound(t, what)
}

// diesInOpen is a twin of the run whose disk, started again, dies at an operation of Open; and whether it did.
func (r *run) diesInOpen(t *testing.T, crash, keep int) (*run, bool) {
	t.Helper()
	twin := &run{d: r.d.Clone(), may: r.may}
	must(t, twin.d.Start(api.Plan{Crash: crash, Keep: []int{keep}}))
	_, e := store.Open(twin.d)
	if e != api.OK && e != api.ErrDead {
		t.Fatalf("Open answers %d", e)
	}
	return twin, e == api.ErrDead
}

func TestDurableBehindErrors(t *testing.T) { // P11.8: where the disk has failed an operation, or two
	deaths := 0
	for _, script := range slices.Concat(scripts("WF", 3), []string{"WCWC", "WWOW", "WFOW", "WWFOWW", "WFWCOW", "WOCW"}) {
		for fail := 1; fail <= 30; fail++ {
			for second := fail + 1; second <= fail+3; second++ {
				for crash := fail + 1; crash <= fail+12; crash++ {
					for _, keep := range [][]int{nil, {-1}, {0, -1}, {-1, 0}, {1, 0}, {40, 1}, {0, 0, -1}, {-1, 0, 30}} {
						r, died := dies(t, script, api.Plan{Crash: crash, Keep: keep, Fail: []int{fail}, Full: []int{second}})
						if !died {
							break
						}
						r.wantFound(t, fmt.Sprint(script, " fails at ", fail, ", ", second, ", dies at ", crash, ", keeps ", keep))
						deaths++
					}
				}
			}
		}
	}
	if deaths < 20000 {
		t.Errorf("only %d deaths", deaths)
	}
}

func TestDurableBehindAnErrorOfReset(t *testing.T) { // P11.8: old batches of the log never stand behind a new one
	deaths := 0
	for _, script := range []string{"WWWFW", "WWWFOW", "WWWFOFW", "WWFOCWW"} {
		for fail := 10; fail <= 30; fail++ {
			for crash := fail + 1; crash <= fail+8; crash++ {
				if _, died := dies(t, script, api.Plan{Crash: crash, Fail: []int{fail}}); !died {
					break
				}
				for n := -1; n < 120; n += 5 {
					for _, keep := range [][]int{{0, n}, {1, n}, {0, 0, n}, {1, 0, n}, {0, 1, n}} {
						r, _ := dies(t, script, api.Plan{Crash: crash, Keep: keep, Fail: []int{fail}})
						r.wantFound(t, fmt.Sprint(script, " fails at ", fail, ", dies at ", crash, ", keeps ", keep))
						deaths++
					}
				}
			}
		}
	}
	if deaths < 20000 {
		t.Errorf("only %d deaths", deaths)
	}
}

func TestAllOfAWriteOrNothing(t *testing.T) { // P11.5, P11.8: and for some survivors it is there, for others not
	var found []string
	for n := range 200 {
		s, d := opened(t, api.Plan{Crash: 4, Keep: []int{n}})
		must(t, s.Write([]api.Put{put("a", "1"), put("b", "1")}))
		wantErrno(t, "the crash", s.Write([]api.Put{put("a", "2"), gone("b"), put("c", strings.Repeat("c", 60))}), api.ErrDead)
		if told := tell(reopened(t, d).Each("")); !slices.Contains(found, told) {
			found = append(found, told)
		}
	}
	if len(found) != 2 || found[0] != `"a": "1", "b": "1"` || found[1] != `"a": "2", "c": "`+strings.Repeat("c", 60)+`"` {
		t.Errorf("found %q", found)
	}
}

func TestOnlyTheLastErrorMayBeFound(t *testing.T) { // P11.8: not one ahead of it, once the log could be set right
	for fail := 7; fail <= 8; fail++ { // the second Write's Append or Sync, behind its Truncate and Sync
		s, d := opened(t, api.Plan{Fail: []int{4, fail}, Keep: []int{-1}})
		must(t, s.Write([]api.Put{put("a", "1")}))
		wantErrno(t, "the first", s.Write([]api.Put{put("b", "1")}), api.ErrIO)
		twin := d.Clone()
		wantErrno(t, "the second", s.Write([]api.Put{put("c", "1")}), api.ErrIO)
		wantHas(t, "told", s, has{"a": "1"})
		wantHas(t, "the first alone", reopened(t, twin), has{"a": "1", "b": "1"})
		want := has{"a": "1"}
		if fail == 8 {
			want = want.with(put("c", "1"))
		}
		wantHas(t, "the last alone", reopened(t, d), want)
	}
}

func TestDurableAtRandom(t *testing.T) { // P11.8: long scripts, with deaths, errors and full disks, started again and again
	found := 0
	for seed := range 1500 {
		s := source(seed)
		r := begin(api.Plan{})
		for life := range 6 {
			p := api.Plan{Crash: 1 + s.below(60), Keep: []int{s.below(100) - 1, s.below(2), s.below(3) - 1}}
			for i := range 60 {
				if s.below(9) == 0 {
					p.Fail = append(p.Fail, i)
				}
				if s.below(12) == 0 {
					p.Full = append(p.Full, i)
				}
			}
			must(t, r.d.Start(p))
			script := ""
			for range 14 {
				script += string("WWWFFCO"[s.below(7)])
			}
			r.do(t, script)
			must(t, r.d.Start(api.Plan{}))
			if life%2 == 0 || r.s == nil { // else the old store goes on
				r.open(t, fmt.Sprint("seed ", seed, ", life ", life))
				found += len(r.told)
			}
			if r.s == nil {
				t.Fatalf("seed %d, life %d: no store", seed, life)
			}
			r.may = []string{}
			r.do(t, "W")
		}
		r.wantFound(t, fmt.Sprint("seed ", seed))
	}
	if found < 10000 {
		t.Errorf("only %d keys were found at all", found)
	}
}
