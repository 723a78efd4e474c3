package disk_test

import (
	"fmt"
	"math"
	"testing"

	"cairn/api"
	"cairn/disk"
)

func TestExampleOfDying(t *testing.T) { // the chapter's example 1
	d := disk.New(api.Plan{Crash: 4, Keep: []int{2}})
	wantErrno(t, "Create", d.Create("a"), api.OK)
	wantErrno(t, "Append", d.Append("a", []byte("abc")), api.OK)
	wantErrno(t, "Sync of none", d.Sync("b"), api.ErrNoFile)
	if d.Dead() {
		t.Error("it died too early")
	}
	wantErrno(t, "the crash", d.Append("a", []byte("de")), api.ErrDead)
	if !d.Dead() {
		t.Error("it has not died")
	}
	wantErrno(t, "Start", d.Start(api.Plan{}), api.OK)
	wantText(t, "behind Start", text(d.Files()), `a="ab"`)
}

func TestOpsAndDead(t *testing.T) { // P1.5
	d := withFiles(t, api.Plan{Crash: 9, Fail: []int{8}})
	for i, o := range operations() {
		must(t, d.Create(fmt.Sprint("x", i)), d.Start(api.Plan{}))
		d2 := d.Clone()
		wantErrno(t, o.name, o.do(d2), api.OK)
		if d2.Ops() != 1 || d2.Dead() {
			t.Errorf("%s: %d operations, dead %v", o.name, d2.Ops(), d2.Dead())
		}
	}
	must(t, d.Start(api.Plan{Crash: 4, Fail: []int{2}}))
	for i, want := range []api.Errno{api.OK, api.ErrIO, api.OK, api.ErrDead, api.ErrDead} {
		wantErrno(t, "Sync", d.Sync("a"), want)
		if d.Ops() != min(i+1, 4) || d.Dead() != (i >= 3) {
			t.Errorf("behind %d: %d operations, dead %v", i+1, d.Ops(), d.Dead())
		}
	}
}

func TestWhatSurvives(t *testing.T) { // P1.6
	type step func(d *disk.Disk) api.Errno
	add := func(b string) step { return func(d *disk.Disk) api.Errno { return d.Append("a", []byte(b)) } }
	put := func(at int, b string) step {
		return func(d *disk.Disk) api.Errno { return d.WriteAt("a", at, []byte(b)) }
	}
	cut := func(long int) step { return func(d *disk.Disk) api.Errno { return d.Truncate("a", long) } }
	for i, c := range []struct {
		keep  []int
		steps []step
		want  string
	}{
		{nil, []step{add("xy"), cut(1)}, "abc"},
		{[]int{}, []step{add("xy"), cut(1)}, "abc"},
		{[]int{-1}, []step{add("xy")}, "abcxy"},
		{[]int{math.MinInt}, []step{add("xy"), cut(4)}, "abcx"},
		{[]int{-2}, []step{add("xy"), cut(4)}, "abcx"},
		{[]int{0}, []step{add("xy")}, "abc"},
		{[]int{1}, []step{add("xy")}, "abcx"},
		{[]int{2}, []step{add("xy")}, "abcxy"},
		{[]int{3}, []step{add("xy")}, "abc"}, // 3 mod 3
		{[]int{4}, []step{add("xy")}, "abcx"},
		{[]int{5}, []step{add("xy")}, "abcxy"},
		{[]int{math.MaxInt}, []step{add("x")}, "abcx"}, // odd, mod 2
		{[]int{0}, []step{cut(1)}, "abc"},
		{[]int{1}, []step{cut(1)}, "a"},
		{[]int{2}, []step{cut(1)}, "abc"},
		{[]int{3}, []step{cut(5)}, "abc\x00\x00"},
		{[]int{math.MaxInt}, []step{cut(0)}, ""},
		{[]int{math.MaxInt - 1}, []step{cut(0)}, "abc"},
		{[]int{1}, []step{put(1, "XY")}, "aXc"},
		{[]int{1}, []step{put(5, "XY")}, "abc\x00\x00X"},
		{[]int{3}, []step{put(5, "XY")}, "abc"}, // of none: nothing, no noughts either
		{[]int{5}, []step{put(5, "")}, "abc"},
		{[]int{-1}, []step{put(5, "")}, "abc\x00\x00"},
		{[]int{0, 1}, []step{add("xy"), add("zw")}, "abc\x00\x00z"},        // the first is lost, the other stays where it was
		{[]int{0, 1}, []step{cut(1), add("zw")}, "azc"},                    // a cut is lost
		{[]int{1, 0}, []step{cut(1), add("zw")}, "a"},                      // a write is lost
		{[]int{-1, 0, -1}, []step{cut(1), cut(3), add("z")}, "a\x00\x00z"}, // noughts, not what was cut off
		{[]int{-1, 1}, []step{add("xy"), add("zw"), add("uv"), add("st")}, "abcxyz\x00uvs"},
		{[]int{-1, 0}, []step{add("xy"), add(""), add("zw")}, "abcxyzw"}, // a write of nothing takes a number, too
		{[]int{1, 2, 3}, []step{add("x"), cut(4), add("y")}, "abcxy"},
		{[]int{1, 2, 3, 0, 0}, []step{put(0, "ABC")}, "Abc"},
	} {
		d := withFiles(t, api.Plan{Keep: c.keep, Crash: len(c.steps) + 1})
		for _, s := range c.steps {
			must(t, s(d))
		}
		other := d.Clone()
		wantErrno(t, "the crash", d.Sync("a"), api.ErrDead)
		wantText(t, fmt.Sprintf("%d: safe", i), text(d.Safe()), fmt.Sprintf(`a=%q b="de"`, c.want))
		must(t, d.Start(api.Plan{Keep: []int{-1}}))
		wantText(t, fmt.Sprintf("%d: behind a crash and Start", i), text(d.Files()), fmt.Sprintf(`a=%q b="de"`, c.want))
		wantText(t, fmt.Sprintf("%d: all is safe", i), text(d.Safe()), fmt.Sprintf(`a=%q b="de"`, c.want))
		must(t, other.Start(api.Plan{Keep: []int{-1}}))
		wantText(t, fmt.Sprintf("%d: behind Start alone", i), text(other.Files()), fmt.Sprintf(`a=%q b="de"`, c.want))
	}
}

func TestKeepGoesFileByFileByNames(t *testing.T) { // P1.6
	d := disk.New(api.Plan{Keep: []int{0, 1, 2}})
	must(t, d.Create("c"), d.Create("a"), d.Create("B"), d.Create("b"))
	for _, name := range []string{"c", "a", "B", "b"} {
		must(t, d.Append(name, []byte("12")))
	}
	for _, name := range []string{"b", "c", "B", "a"} {
		must(t, d.Append(name, []byte("34")))
	}
	must(t, d.Start(api.Plan{})) // B: 0, 1; a: 2, 0; b: 1, 2; c: 0, 1
	wantText(t, "what survived", text(d.Files()), fmt.Sprintf(`B=%q a="12" b=%q c=%q`, "\x00\x003", "1\x0034", "\x00\x003"))
}

func TestKeepGoesByTheNameThatAFileHas(t *testing.T) { // P1.6, P1.3
	d := withFiles(t, api.Plan{Keep: []int{-1, 0}})
	must(t, d.Append("a", []byte("x")), d.Append("b", []byte("y")), d.Rename("a", "c"), d.Start(api.Plan{}))
	wantText(t, "what survived", text(d.Files()), `b="dey" c="abc"`)
}

func TestCrashDoesNotDoTheOperation(t *testing.T) { // P1.2, P1.6
	for _, o := range operations() {
		d := withFiles(t, api.Plan{Crash: 1, Keep: []int{-1}})
		wantErrno(t, o.name, o.do(d), api.ErrDead)
		must(t, d.Start(api.Plan{}))
		wantText(t, o.name, text(d.Files()), `a="abc" b="de"`)
	}
}

func TestStartGoesByTheNewPlan(t *testing.T) { // P1.6
	d := disk.New(api.Plan{Crash: 1, Fail: []int{2}, Full: []int{3}, Room: 1})
	wantErrno(t, "the crash", d.Create("a"), api.ErrDead)
	wantErrno(t, "Start", d.Start(api.Plan{Crash: 6, Fail: []int{3}, Full: []int{4}, Room: 9, Keep: []int{1}}), api.OK)
	wantText(t, "behind Start", all(d), "ops 0 dead false files [] safe [] each []")
	must(t, d.Create("a"), d.Append("a", []byte("12")))
	wantErrno(t, "the new Fail", d.Append("a", nil), api.ErrIO)
	wantErrno(t, "the new Full", d.Append("a", nil), api.ErrFull)
	wantErrno(t, "the new Room", d.Append("a", make([]byte, 8)), api.ErrFull)
	wantErrno(t, "the new Crash", d.Append("a", nil), api.ErrDead)
	wantText(t, "the new Keep", text(d.Safe()), `a="1"`)
	must(t, d.Start(api.Plan{}), d.Start(api.Plan{Crash: 1}))
	wantText(t, "nothing is lost twice", text(d.Files()), `a="1"`)
	wantErrno(t, "the newest Crash", d.Append("a", nil), api.ErrDead)
}

func TestStartDiesByTheOldKeep(t *testing.T) { // P1.6
	d := withFiles(t, api.Plan{Keep: []int{1}})
	must(t, d.Append("a", []byte("xy")), d.Start(api.Plan{Keep: []int{2}}))
	wantText(t, "by the old Keep", text(d.Files()), `a="abcx" b="de"`)
	must(t, d.Append("a", []byte("zw")), d.Start(api.Plan{}))
	wantText(t, "by the next", text(d.Files()), `a="abcxzw" b="de"`)
	must(t, d.Append("a", []byte("uv")), d.Start(api.Plan{Keep: []int{-1}}))
	wantText(t, "by the one without Keep", text(d.Files()), `a="abcxzw" b="de"`)
}

func TestWhatDiedHasNoChangesLeft(t *testing.T) { // P1.6: then all is safe
	d := withFiles(t, api.Plan{Crash: 3, Keep: []int{1, 0}})
	must(t, d.Append("a", []byte("xy")), d.Truncate("b", 0))
	wantErrno(t, "the crash", d.Sync("a"), api.ErrDead)
	must(t, d.Start(api.Plan{Keep: []int{-1}}), d.Start(api.Plan{Keep: []int{-1}}))
	wantText(t, "behind another death", text(d.Files())+text(d.Safe()), `a="abcx" b="de"a="abcx" b="de"`)
	must(t, d.Sync("a"), d.Sync("b"))
	wantText(t, "synced", text(d.Files())+text(d.Safe()), `a="abcx" b="de"a="abcx" b="de"`)
}
