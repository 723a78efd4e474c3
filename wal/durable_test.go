package wal_test

import (
	"fmt"
	"slices"
	"strings"
	"testing"

	"cairn/api"
	"cairn/disk"
	"cairn/wal"
)

// run is a script under way, with what may be found behind a crash.
type run struct {
	d       *disk.Disk
	l       *wal.Log
	told    [][][]byte
	found   []string // the texts of the lists of batches that may be found, by P10.7
	unsure  bool     // an error was answered, and nothing has set it right
	written int      // how many batches were handed in
}

// begin opens a log on a new disk.
func begin(p api.Plan) *run {
	r := &run{d: disk.New(p), found: []string{""}}
	r.l, _ = wal.Open(r.d, name)
	return r
}

// next is a batch like no other, whose bytes are as many as those of the others, so that what is left of one could stand behind another.
func (r *run) next() [][]byte {
	r.written++
	return [][]byte{{byte(r.written)}}
}

// may takes a list of batches among those that may be found.
func (r *run) may(l [][][]byte) {
	if s := text(l); !slices.Contains(r.found, s) {
		r.found = append(r.found, s)
	}
}

// only says that of all that might have been found there is but what the log tells.
func (r *run) only() { r.found = []string{text(r.told)} }

func (r *run) append() {
	batch, before, cut := r.next(), r.d.Ops(), 0
	if r.unsure {
		cut = 2
	}
	e := r.l.Append(batch)
	with := append(r.told[:len(r.told):len(r.told)], batch)
	switch done := r.d.Ops() - before; {
	case e == api.OK:
		r.told = with
		r.only()
	case done == cut+2: // at its Sync: the bytes were appended, where all was right
		r.only()
		r.may(with)
	case done == cut+1: // at its Append: nothing was written
		r.only()
	}
	r.unsure = e != api.OK
}

func (r *run) reset() {
	before := r.d.Ops()
	e := r.l.Reset()
	done := r.d.Ops() - before
	if e == api.OK || done == 2 {
		r.told = nil
		r.may(nil)
	}
	if e == api.OK {
		r.only()
	}
	r.unsure = e != api.OK
}

// do does a script: A appends, R resets.
func (r *run) do(t *testing.T, script string) {
	t.Helper()
	for _, step := range script {
		switch {
		case r.l == nil: // the disk failed Open
			return
		case step == 'A':
			r.append()
		case step == 'R':
			r.reset()
		}
		if text(r.l.Batches()) != text(r.told) {
			t.Fatalf("%s: the log tells %s, want %s", script, text(r.l.Batches()), text(r.told))
		}
	}
}

// wantFound holds what is found behind a crash against what may be found; and both the log that is found and the old one go on from there.
func (r *run) wantFound(t *testing.T, what string) {
	t.Helper()
	found := reopened(t, r.d)
	if s := text(found.Batches()); !slices.Contains(r.found, s) {
		t.Fatalf("%s: found %q, want one of %q", what, s, r.found)
	}
	had, twin := found.Batches(), r.d.Clone()
	must(t, found.Append(z))
	if want := append(had, z); !same(reopened(t, r.d).Batches(), want) {
		t.Fatalf("%s: found %s, and gone on: %s", what, text(want), text(reopened(t, r.d).Batches()))
	}
	if r.l == nil {
		return
	}
	*r.d = *twin // the disk that the old log knows, as it was found
	must(t, r.l.Append(z))
	if want := append(r.told[:len(r.told):len(r.told)], z); !same(reopened(t, r.d).Batches(), want) {
		t.Fatalf("%s: the old log told %s, and gone on: %s", what, text(want), text(reopened(t, r.d).Batches()))
	}
}

// scripts are all scripts of so many steps.
func scripts(steps int) []string {
	if steps == 0 {
		return []string{""}
	}
	var l []string
	for _, s := range scripts(steps - 1) {
		l = append(l, s+"A", s+"R")
	}
	return l
}

// prefixes are Keeps that let every beginning of a batch's bytes survive, and all of them, with each of the cuts behind it and without.
func prefixes(step int) [][]int {
	var l [][]int
	for n := 0; n < 30; n += step { // a batch of one byte has 29 bytes
		for cuts := range 4 {
			l = append(l, []int{n, cuts & 1, cuts >> 1})
		}
	}
	return append(l, nil, []int{-1}, []int{29, 0}, []int{29, 1})
}

func TestDurable(t *testing.T) { // P10.7: deaths at each operation, whatever survives
	for _, script := range slices.Concat(scripts(1), scripts(2), scripts(3), scripts(4)) {
		for crash := 1; crash <= 2*len(script)+2; crash++ {
			for _, keep := range prefixes(1) {
				r := begin(api.Plan{Crash: crash, Keep: keep})
				r.do(t, script)
				r.wantFound(t, fmt.Sprint(script, " dies at ", crash, ", keeps ", keep))
			}
		}
	}
}

func TestDurableBehindErrors(t *testing.T) { // P10.7: likewise, where the disk has failed an operation, or two
	for _, script := range slices.Concat(scripts(2), scripts(3)) {
		for fail := 1; fail <= 2*len(script)+1; fail++ {
			for second := fail; second <= fail+4; second++ {
				for crash := fail + 1; crash <= 2*len(script)+6; crash++ {
					for _, keep := range prefixes(14) {
						r := begin(api.Plan{Crash: crash, Keep: keep, Fail: []int{fail}, Full: []int{second}})
						r.do(t, script)
						r.wantFound(t, fmt.Sprint(script, " fails at ", fail, " and ", second, ", dies at ", crash, ", keeps ", keep))
					}
				}
			}
		}
	}
}

func TestEveryPrefixBehindAnError(t *testing.T) { // P10.7: the bytes of an Append that failed, and the cut that takes them back
	for _, script := range []string{"AAA", "AAAA", "AARA", "ARRA", "AAAR"} {
		for fail := 2; fail <= 5; fail++ {
			for crash := fail + 1; crash <= fail+5; crash++ {
				for _, keep := range prefixes(1) {
					r := begin(api.Plan{Crash: crash, Keep: keep, Fail: []int{fail}})
					r.do(t, script)
					r.wantFound(t, fmt.Sprint(script, " fails at ", fail, ", dies at ", crash, ", keeps ", keep))
				}
			}
		}
	}
}

func TestDyingInRecovery(t *testing.T) { // P10.7: the disk dies while Open cuts a torn tail off
	for torn := range 29 {
		for crash := 1; crash <= 3; crash++ {
			for keep := range 2 {
				r := begin(api.Plan{Crash: 7, Keep: []int{torn}})
				r.do(t, "AAA")
				must(t, r.d.Start(api.Plan{Crash: crash, Keep: []int{keep}}))
				_, e := wal.Open(r.d, name)
				if dies := torn > 0 && crash < 3; dies != (e == api.ErrDead) {
					t.Errorf("%d bytes survive, death at %d: %d", torn, crash, e)
				}
				r.wantFound(t, fmt.Sprint("torn behind ", torn, ", dies at ", crash, ", keeps ", keep))
			}
		}
	}
}

func TestAllThatMayBeFoundIsFound(t *testing.T) { // P10.7: what may be there is there for some survivors
	for _, x := range []struct {
		script string
		crash  int
		want   string // what is found, by how many bytes of the last batch survive, or whether the cut does
	}{
		{"AA", 5, `["\x01"] | ["\x01"] ["\x02"]`},
		{"AAA", 7, `["\x01"] ["\x02"] | ["\x01"] ["\x02"] ["\x03"]`},
		{"AAR", 7, `["\x01"] ["\x02"] | `},
		{"AAR", 6, `["\x01"] ["\x02"]`},
		{"AARA", 9, ` | ["\x03"]`},
	} {
		var all []string
		for n := range 30 {
			r := begin(api.Plan{Crash: x.crash, Keep: []int{n}})
			r.do(t, x.script)
			if s := text(reopened(t, r.d).Batches()); !slices.Contains(all, s) {
				all = append(all, s)
			}
		}
		wantText(t, x.script, strings.Join(all, " | "), x.want)
	}
}

func TestAtMostOneMore(t *testing.T) { // P10.7: an Append that failed is not found beside one behind it
	r := begin(api.Plan{Fail: []int{5, 9}, Keep: []int{-1}})
	r.do(t, "AAA")
	wantText(t, "the first alone", text(r.told), `["\x01"]`)
	twin := r.d.Clone()
	must(t, twin.Start(api.Plan{}))
	l, e := wal.Open(twin, name)
	must(t, e)
	wantText(t, "found", text(l.Batches()), `["\x01"] ["\x03"]`)
	r.do(t, "A")
	r.wantFound(t, "the fourth answered OK")
}

func TestDurableAtRandom(t *testing.T) { // P10.7: long scripts, with deaths, errors and full disks, started again and again
	found := 0
	for seed := range 1500 {
		s := source(seed)
		r := begin(api.Plan{})
		for life := range 6 {
			p := api.Plan{Crash: 1 + s.below(25), Keep: []int{s.below(31) - 1, s.below(2), s.below(3) - 1}}
			for i := range 25 {
				if s.below(6) == 0 {
					p.Fail = append(p.Fail, i)
				}
				if s.below(9) == 0 {
					p.Full = append(p.Full, i)
				}
			}
			must(t, r.d.Start(p))
			script := ""
			for range 12 {
				script += string("AAAR"[s.below(4)])
			}
			r.do(t, script)
			if life%2 == 0 { // else the old log goes on
				r.l = reopened(t, r.d)
				r.told, r.unsure = r.l.Batches(), false
				if !slices.Contains(r.found, text(r.told)) {
					t.Fatalf("seed %d, life %d: found %s, want one of %q", seed, life, text(r.told), r.found)
				}
				r.only()
				found += len(r.told)
			}
		}
	}
	if found < 1000 {
		t.Errorf("only %d batches were found at all", found)
	}
}
