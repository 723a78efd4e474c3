package disk_test

import (
	"fmt"
	"testing"

	"cairn/api"
	"cairn/disk"
)

// keeps are plans' Keeps of all kinds: none, all, pieces, fewer than changes.
func keeps() [][]int {
	return [][]int{nil, {-1}, {0}, {1}, {2}, {3}, {0, -1}, {-1, 0}, {1, 0}, {5, 2, 7}, {0, 0, 1}, {9, -3, 4, 1}}
}

func TestSyncedIsSafe(t *testing.T) { // P1.7
	steps := []operation{
		{"", func(d *disk.Disk) api.Errno { return d.Create("a") }},
		{"", func(d *disk.Disk) api.Errno { return d.Create("b") }},
		{"", func(d *disk.Disk) api.Errno { return d.Append("b", []byte("12345")) }},
		{"", func(d *disk.Disk) api.Errno { return d.Append("a", []byte("abc")) }},
		{"", func(d *disk.Disk) api.Errno { return d.Truncate("a", 2) }},
		{"synced", func(d *disk.Disk) api.Errno { return d.Sync("a") }},
		{"synced", func(d *disk.Disk) api.Errno { return d.Truncate("b", 1) }},
		{"synced", func(d *disk.Disk) api.Errno { return d.Create("c") }},
		{"synced", func(d *disk.Disk) api.Errno { return d.Append("c", []byte("xyz")) }},
		{"synced", func(d *disk.Disk) api.Errno { return d.WriteAt("b", 9, []byte("xyz")) }},
		{"synced", func(d *disk.Disk) api.Errno { return d.Rename("c", "b") }},
		{"synced", func(d *disk.Disk) api.Errno { return d.Append("b", []byte("xyz")) }},
	}
	for _, keep := range keeps() {
		for crash := 7; crash <= len(steps)+1; crash++ {
			d := disk.New(api.Plan{Crash: crash, Keep: keep})
			for _, s := range steps {
				s.do(d)
			}
			must(t, d.Start(api.Plan{Crash: 1, Keep: keep}))
			wantErrno(t, "another death", d.Sync("a"), api.ErrDead)
			must(t, d.Start(api.Plan{}))
			b, e := d.Read("a", 0, 2)
			n, _ := d.Size("a")
			if e != api.OK || string(b) != "ab" || n != 2 {
				t.Errorf("Keep %v, Crash %d: %q, %d, %d", keep, crash, b, n, e)
			}
		}
	}
}

// doSome does one of many operations to d, and to the twin if there is one, which must answer alike.
func doSome(t *testing.T, s *source, d, twin *disk.Disk) {
	t.Helper()
	kind, name, to := s.below(8), string(rune('a'+s.below(3))), string(rune('a'+s.below(3)))
	at, b := s.below(12)-1, []byte("0123456789")[:s.below(6)]
	do := func(d *disk.Disk) api.Errno {
		switch kind {
		case 0:
			return d.Create(name)
		case 1, 2:
			return d.Append(name, b)
		case 3:
			return d.WriteAt(name, at, b)
		case 4:
			return d.Truncate(name, at)
		case 5:
			return d.Sync(name)
		case 6:
			return d.Rename(name, to)
		}
		return d.Remove(name)
	}
	e := do(d)
	if twin != nil {
		wantErrno(t, fmt.Sprintf("the twin's %d on %s, %s, %d", kind, name, to, at), do(twin), e)
	}
}

func TestAllOrNothing(t *testing.T) { // P1.8
	for seed := range 300 {
		s := source(seed)
		d := disk.New(api.Plan{Keep: []int{-1}})
		nothing := disk.New(api.Plan{})
		for range 40 {
			doSome(t, &s, d, nothing)
		}
		had, safe := text(d.Files()), text(nothing.Safe())
		must(t, d.Start(api.Plan{}), nothing.Start(api.Plan{}))
		wantText(t, "with Keep -1", text(d.Files()), had)
		wantText(t, "with Keep empty", text(nothing.Files()), safe)
	}
}

func TestTwinsGoOnAlike(t *testing.T) { // P1.5, P1.9
	for seed := range 300 {
		s := source(seed)
		p := api.Plan{Crash: s.below(60), Keep: keeps()[seed%len(keeps())], Fail: []int{s.below(60)}, Full: []int{s.below(60)}, Room: s.below(40)}
		d := disk.New(p)
		for range 30 {
			doSome(t, &s, d, nil)
		}
		twin := d.Clone()
		wantText(t, "the clone", all(twin), all(d))
		for range 40 {
			doSome(t, &s, d, twin)
			wantText(t, "the clone, gone on", all(twin), all(d))
		}
		must(t, d.Start(api.Plan{}), twin.Start(api.Plan{}))
		wantText(t, "the clone, started again", all(twin), all(d))
	}
}

func TestTwinsDoNotMeet(t *testing.T) { // P1.9
	for seed := range 300 {
		s := source(seed)
		d := disk.New(api.Plan{Keep: []int{1, -1}})
		for range 30 {
			doSome(t, &s, d, nil)
		}
		witness, twin := d.Clone(), d.Clone()
		had := all(d)
		for range 30 {
			doSome(t, &s, twin, nil)
		}
		must(t, twin.Start(api.Plan{Crash: 1}))
		twin.Create("a")
		wantText(t, "what was cloned", all(d), had)
		stays := all(twin)
		for range 30 {
			doSome(t, &s, d, witness)
		}
		must(t, d.Start(api.Plan{}), witness.Start(api.Plan{}))
		wantText(t, "what was cloned, gone on", all(d), all(witness))
		wantText(t, "the clone", all(twin), stays)
	}
}

func TestCloneOfTheDead(t *testing.T) { // P1.5
	d := withFiles(t, api.Plan{Crash: 2, Keep: []int{1}})
	must(t, d.Append("a", []byte("xy")))
	wantErrno(t, "the crash", d.Sync("a"), api.ErrDead)
	twin := d.Clone()
	wantText(t, "the clone", all(twin), `ops 2 dead true files [] safe [a="abcx" b="de"] each [] a 0 10 "" 10 b 0 10 "" 10`)
	wantErrno(t, "the clone's Sync", twin.Sync("a"), api.ErrDead)
	must(t, twin.Start(api.Plan{}))
	wantText(t, "the clone, started", text(twin.Files()), `a="abcx" b="de"`)
	if !d.Dead() {
		t.Error("what was cloned lives, too")
	}
}

func TestNeverMoreThanRoom(t *testing.T) { // P1.10
	met := 0
	for seed := range 300 {
		s := source(seed)
		room := 1 + s.below(20)
		d := disk.New(api.Plan{Room: room, Keep: keeps()[seed%len(keeps())]})
		for i := range 120 {
			doSome(t, &s, d, nil)
			if i == 60 {
				must(t, d.Start(api.Plan{Room: room}))
			}
			sum := 0
			for _, n := range d.Each() {
				sum += n
			}
			if sum > room {
				t.Fatalf("seed %d: %d bytes, room %d", seed, sum, room)
			}
			if sum == room {
				met++
			}
		}
	}
	if met == 0 {
		t.Error("the room was never used up")
	}
}
