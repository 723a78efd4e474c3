package disk_test

import (
	"fmt"
	"math"
	"testing"

	"cairn/api"
	"cairn/disk"
)

func TestCrashBeforeFailBeforeFull(t *testing.T) { // P1.2
	for i, o := range operations() {
		d := withFiles(t, api.Plan{Crash: 1, Fail: []int{1}, Full: []int{1}, Room: 1})
		wantErrno(t, o.name+", all three", o.do(d), api.ErrDead)
		if !d.Dead() || d.Ops() != 1 {
			t.Errorf("%s: dead %v, %d operations", o.name, d.Dead(), d.Ops())
		}
		d = withFiles(t, api.Plan{Crash: 2, Fail: []int{1}, Full: []int{1}})
		wantErrno(t, o.name+", Fail and Full", o.do(d), api.ErrIO)
		d = withFiles(t, api.Plan{Crash: 2, Fail: []int{2}, Full: []int{1}})
		want := api.OK
		if i < 4 {
			want = api.ErrFull
		}
		wantErrno(t, o.name+", Full", o.do(d), want)
	}
}

func TestDeadIsNotCounted(t *testing.T) { // P1.2
	d := withFiles(t, api.Plan{Crash: 1, Fail: []int{2}})
	wantErrno(t, "the crash", d.Sync("a"), api.ErrDead)
	before := all(d)
	for _, o := range operations() {
		wantErrno(t, o.name, o.do(d), api.ErrDead)
	}
	wantText(t, "behind operations on a dead disk", all(d), before)
}

// wrong are calls that P1.3 refuses, with all that they could be refused for but the first left to the plan.
func wrong() []struct {
	operation
	want api.Errno
} {
	return []struct {
		operation
		want api.Errno
	}{
		{operation{"Create of a bad name", func(d *disk.Disk) api.Errno { return d.Create("x/y") }}, api.ErrName},
		{operation{"Create of what is there", func(d *disk.Disk) api.Errno { return d.Create("a") }}, api.ErrFile},
		{operation{"Append to none", func(d *disk.Disk) api.Errno { return d.Append("c", make([]byte, 9)) }}, api.ErrNoFile},
		{operation{"WriteAt to none", func(d *disk.Disk) api.Errno { return d.WriteAt("c", -1, make([]byte, 9)) }}, api.ErrNoFile},
		{operation{"WriteAt below 0", func(d *disk.Disk) api.Errno { return d.WriteAt("a", -1, make([]byte, 9)) }}, api.ErrRange},
		{operation{"WriteAt far below 0", func(d *disk.Disk) api.Errno { return d.WriteAt("a", math.MinInt, make([]byte, 9)) }}, api.ErrRange},
		{operation{"WriteAt past the limit", func(d *disk.Disk) api.Errno { return d.WriteAt("a", api.MaxFile, []byte("x")) }}, api.ErrLong},
		{operation{"WriteAt of nothing past the limit", func(d *disk.Disk) api.Errno { return d.WriteAt("a", api.MaxFile+1, nil) }}, api.ErrLong},
		{operation{"WriteAt far past the limit", func(d *disk.Disk) api.Errno { return d.WriteAt("a", math.MaxInt, []byte("x")) }}, api.ErrLong},
		{operation{"Truncate of none", func(d *disk.Disk) api.Errno { return d.Truncate("c", -1) }}, api.ErrNoFile},
		{operation{"Truncate below 0", func(d *disk.Disk) api.Errno { return d.Truncate("a", -1) }}, api.ErrRange},
		{operation{"Truncate far below 0", func(d *disk.Disk) api.Errno { return d.Truncate("a", math.MinInt) }}, api.ErrRange},
		{operation{"Truncate past the limit", func(d *disk.Disk) api.Errno { return d.Truncate("a", api.MaxFile+1) }}, api.ErrLong},
		{operation{"Truncate far past the limit", func(d *disk.Disk) api.Errno { return d.Truncate("a", math.MaxInt) }}, api.ErrLong},
		{operation{"Sync of none", func(d *disk.Disk) api.Errno { return d.Sync("c") }}, api.ErrNoFile},
		{operation{"Rename of none", func(d *disk.Disk) api.Errno { return d.Rename("c", "x/y") }}, api.ErrNoFile},
		{operation{"Rename of none to itself", func(d *disk.Disk) api.Errno { return d.Rename("c", "c") }}, api.ErrNoFile},
		{operation{"Rename to a bad name", func(d *disk.Disk) api.Errno { return d.Rename("a", "x/y") }}, api.ErrName},
		{operation{"Remove of none", func(d *disk.Disk) api.Errno { return d.Remove("c") }}, api.ErrNoFile},
		{operation{"Remove of a bad name", func(d *disk.Disk) api.Errno { return d.Remove("") }}, api.ErrNoFile},
	}
}

func TestWrongCalls(t *testing.T) { // P1.2, P1.3
	for _, w := range wrong() {
		d := withFiles(t, api.Plan{})
		wantErrno(t, w.name, w.do(d), w.want)
		d = withFiles(t, api.Plan{Full: []int{1}, Room: 1})
		wantErrno(t, w.name+" without room", w.do(d), w.want)
		d = withFiles(t, api.Plan{Fail: []int{1}})
		wantErrno(t, w.name+" that fails", w.do(d), api.ErrIO)
		d = withFiles(t, api.Plan{Crash: 1})
		wantErrno(t, w.name+" at the crash", w.do(d), api.ErrDead)
	}
}

func TestErrorsChangeTheCountAlone(t *testing.T) { // P1.2
	for _, w := range wrong() {
		d := withFiles(t, api.Plan{Keep: []int{-1}})
		must(t, d.Append("a", []byte("z")))
		wantErrno(t, w.name, w.do(d), w.want)
		wantText(t, w.name, all(d), `ops 2 dead false files [a="abcz" b="de"] safe [a="abc" b="de"] each [a:4 b:2] a 4 0 "abcz" 0 b 2 0 "de" 0 a 4 0 "abcz" 0 b 2 0 "de" 0`)
		must(t, d.Start(api.Plan{}))
		wantText(t, w.name+", behind Start", text(d.Files()), `a="abcz" b="de"`)
	}
	for i, o := range operations() {
		d := withFiles(t, api.Plan{Keep: []int{-1}, Fail: []int{1}, Full: []int{2}})
		wantErrno(t, o.name, o.do(d), api.ErrIO)
		if i < 4 {
			wantErrno(t, o.name, o.do(d), api.ErrFull)
		}
		wantText(t, o.name, text(d.Files())+sizes(d)+text(d.Safe()), `a="abc" b="de"a:3 b:2a="abc" b="de"`)
		must(t, d.Start(api.Plan{}))
		wantText(t, o.name+", behind Start", text(d.Files()), `a="abc" b="de"`)
	}
}

func TestPlanNumbersThatNoOperationHas(t *testing.T) { // P1.2
	for _, crash := range []int{0, -1, math.MinInt, 8, math.MaxInt} {
		d := withFiles(t, api.Plan{Crash: crash, Fail: []int{0, -1, 9, math.MinInt}, Full: []int{0, -1, 9}, Room: -1})
		for range 7 {
			wantErrno(t, "Append", d.Append("a", []byte("x")), api.OK)
		}
	}
}

func TestFailAndFullInAnyOrder(t *testing.T) { // P1.2
	d := withFiles(t, api.Plan{Fail: []int{5, 2, 2}, Full: []int{4, 3, 3, 5}})
	for i, want := range []api.Errno{api.OK, api.ErrIO, api.ErrFull, api.ErrFull, api.ErrIO, api.OK} {
		wantErrno(t, fmt.Sprint("operation ", i+1), d.Append("a", nil), want)
	}
}
