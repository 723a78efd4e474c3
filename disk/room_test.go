package disk_test

import (
	"testing"

	"cairn/api"
	"cairn/disk"
)

func TestExampleOfRoomAndFail(t *testing.T) { // the chapter's example 2
	d := disk.New(api.Plan{Room: 3})
	must(t, d.Create("a"))
	wantErrno(t, "4 bytes", d.Append("a", []byte("abcd")), api.ErrFull)
	wantErrno(t, "3 bytes", d.Append("a", []byte("abc")), api.OK)
	d = disk.New(api.Plan{Fail: []int{2}})
	wantErrno(t, "the first", d.Create("a"), api.OK)
	wantErrno(t, "the second", d.Append("a", nil), api.ErrIO)
	wantErrno(t, "the third", d.Append("a", nil), api.OK)
}

func TestRoomExactlyMet(t *testing.T) { // P1.2
	for name, c := range map[string]struct {
		room int
		do   func(d *disk.Disk) api.Errno
	}{ // withFiles has 5 bytes
		"Append":                  {7, func(d *disk.Disk) api.Errno { return d.Append("b", []byte("xy")) }},
		"WriteAt over the end":    {6, func(d *disk.Disk) api.Errno { return d.WriteAt("b", 1, []byte("xy")) }},
		"WriteAt behind the end":  {8, func(d *disk.Disk) api.Errno { return d.WriteAt("b", 4, []byte("x")) }},
		"WriteAt of nothing":      {7, func(d *disk.Disk) api.Errno { return d.WriteAt("b", 4, nil) }},
		"Truncate that lengthens": {9, func(d *disk.Disk) api.Errno { return d.Truncate("b", 6) }},
	} {
		d := withFiles(t, api.Plan{Room: c.room - 1})
		wantErrno(t, name+" with a byte too little room", c.do(d), api.ErrFull)
		wantText(t, name, text(d.Files()), `a="abc" b="de"`)
		d = withFiles(t, api.Plan{Room: c.room})
		wantErrno(t, name+" with just enough room", c.do(d), api.OK)
		d = withFiles(t, api.Plan{Room: 0})
		wantErrno(t, name+" with any room", c.do(d), api.OK)
		d = withFiles(t, api.Plan{Room: -1})
		wantErrno(t, name+" with Room below 0", c.do(d), api.OK)
	}
}

func TestWhatIsNoLongerHasRoom(t *testing.T) { // P1.2: more than Room, but not more than they have now
	for _, room := range []int{1, 5} {
		d := withFiles(t, api.Plan{Room: room})
		wantErrno(t, "Create", d.Create("c"), api.OK)
		wantErrno(t, "Append of nothing", d.Append("a", nil), api.OK)
		wantErrno(t, "WriteAt within", d.WriteAt("a", 1, []byte("xy")), api.OK)
		wantErrno(t, "Truncate to the same", d.Truncate("a", 3), api.OK)
		wantErrno(t, "Truncate to less", d.Truncate("a", 2), api.OK)
		wantErrno(t, "Rename", d.Rename("a", "d"), api.OK)
		wantErrno(t, "Sync", d.Sync("d"), api.OK)
		wantText(t, "behind these", text(d.Files()), `b="de" c="" d="ax"`)
	}
}

func TestRoomCountsData(t *testing.T) { // P1.2: data, synced or not, and no more of what was cut or removed
	d := disk.New(api.Plan{Room: 4})
	must(t, d.Create("a"), d.Create("b"), d.Append("a", []byte("abc")))
	wantErrno(t, "2 behind 3 unsynced", d.Append("b", []byte("xy")), api.ErrFull)
	must(t, d.Sync("a"))
	wantErrno(t, "2 behind 3 synced", d.Append("b", []byte("xy")), api.ErrFull)
	must(t, d.Truncate("a", 2))
	wantErrno(t, "2 behind a cut to 2, unsynced", d.Append("b", []byte("xy")), api.OK)
	must(t, d.Remove("a"))
	wantErrno(t, "2 behind 2", d.Append("b", []byte("zz")), api.OK)
	must(t, d.Create("c"))
	wantErrno(t, "1 behind 4", d.Append("c", []byte("z")), api.ErrFull)
	must(t, d.Rename("c", "b"))
	wantErrno(t, "4 where a file was renamed over", d.Append("b", []byte("abcd")), api.OK)
}
