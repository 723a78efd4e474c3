package disk_test

import (
	"fmt"
	"strings"
	"testing"

	"cairn/api"
	"cairn/disk"
)

// names are texts, and whether they may be a file's name.
func names() map[string]bool {
	l := map[string]bool{
		"": false, "a": true, strings.Repeat("n", 32): true, strings.Repeat("n", 33): false, strings.Repeat("n", 64): false,
		"SEG-0000000001": true, "MANIFEST.new": true, "\xc3\xa9": false,
	}
	for b := range 256 {
		ok := b >= 33 && b <= 126 && b != '/'
		l[string([]byte{byte(b)})] = ok
		l[string([]byte{'x', byte(b)})] = ok
		l[string([]byte{byte(b), 'x'})] = ok
	}
	return l
}

func TestNames(t *testing.T) { // P1.3, MaxName
	for name, ok := range names() {
		want := api.ErrName
		if ok {
			want = api.OK
		}
		d := disk.New(api.Plan{})
		wantErrno(t, fmt.Sprintf("Create(%q)", name), d.Create(name), want)
		d = disk.New(api.Plan{})
		must(t, d.Create("from"))
		wantErrno(t, fmt.Sprintf("Rename to %q", name), d.Rename("from", name), want)
		if ok {
			wantText(t, "renamed", text(d.Files()), name+`=""`)
		} else {
			wantText(t, "not renamed", text(d.Files()), `from=""`)
		}
	}
}

func TestCreateIsSafeAtOnce(t *testing.T) { // P1.3
	d := disk.New(api.Plan{})
	must(t, d.Create("b"), d.Create("a"))
	wantText(t, "the files", text(d.Files()), `a="" b=""`)
	wantText(t, "what is safe", text(d.Safe()), `a="" b=""`)
	wantErrno(t, "again", d.Create("a"), api.ErrFile)
	must(t, d.Start(api.Plan{}))
	wantText(t, "behind Start", text(d.Files()), `a="" b=""`)
}

func TestMaxFiles(t *testing.T) { // P1.3
	d := disk.New(api.Plan{Full: []int{4097, 4098, 4099}})
	for i := range api.MaxFiles {
		must(t, d.Create(fmt.Sprint("f", i)))
	}
	wantErrno(t, "a bad name too many", d.Create(""), api.ErrName)
	wantErrno(t, "one that is there", d.Create("f7"), api.ErrFile)
	wantErrno(t, "one too many", d.Create("g"), api.ErrLong)
	if n := len(d.Files()); n != api.MaxFiles {
		t.Errorf("there are %d files", n)
	}
	must(t, d.Rename("f7", "g"), d.Remove("f8"))
	wantErrno(t, "one in a removed one's stead", d.Create("f8"), api.OK)
	wantErrno(t, "one too many again", d.Create("h"), api.ErrLong)
	must(t, d.Rename("f8", "g"))
	wantErrno(t, "one in the stead of one renamed over", d.Create("h"), api.OK)
}

func TestAppend(t *testing.T) { // P1.3
	d := disk.New(api.Plan{})
	must(t, d.Create("a"), d.Append("a", []byte("ab")), d.Append("a", nil), d.Append("a", []byte("cd")))
	wantText(t, "the data", text(d.Files()), `a="abcd"`)
	wantText(t, "what is safe", text(d.Safe()), `a=""`)
}

func TestWriteAt(t *testing.T) { // P1.3
	for _, c := range []struct {
		at   int
		b    string
		want string
	}{
		{0, "X", "Xbc"}, {1, "XY", "aXY"}, {2, "XY", "abXY"}, {3, "XY", "abcXY"}, {5, "X", "abc\x00\x00X"}, {0, "", "abc"}, {3, "", "abc"},
		{5, "", "abc\x00\x00"}, // a write, though of nothing: noughts between the end and the place
	} {
		d := withFiles(t, api.Plan{})
		wantErrno(t, "WriteAt", d.WriteAt("a", c.at, []byte(c.b)), api.OK)
		wantText(t, fmt.Sprintf("WriteAt(%d, %q)", c.at, c.b), text(d.Files()), fmt.Sprintf(`a=%q b="de"`, c.want))
		wantText(t, "what is safe", text(d.Safe()), `a="abc" b="de"`)
	}
}

func TestTruncate(t *testing.T) { // P1.3
	for _, c := range []struct {
		long int
		want string
	}{{0, ""}, {1, "a"}, {3, "abc"}, {5, "abc\x00\x00"}} {
		d := withFiles(t, api.Plan{})
		wantErrno(t, "Truncate", d.Truncate("a", c.long), api.OK)
		wantText(t, fmt.Sprintf("Truncate(%d)", c.long), text(d.Files()), fmt.Sprintf(`a=%q b="de"`, c.want))
		wantText(t, "what is safe", text(d.Safe()), `a="abc" b="de"`)
	}
}

func TestWhatWasCutOffStaysAway(t *testing.T) { // the word 'cut': noughts, not what was there
	longer := map[string]func(d *disk.Disk) api.Errno{
		"Truncate":           func(d *disk.Disk) api.Errno { return d.Truncate("a", 3) },
		"WriteAt":            func(d *disk.Disk) api.Errno { return d.WriteAt("a", 2, []byte{0}) },
		"WriteAt of nothing": func(d *disk.Disk) api.Errno { return d.WriteAt("a", 3, nil) },
	}
	for name, lengthen := range longer {
		d := withFiles(t, api.Plan{Keep: []int{-1}})
		must(t, d.Truncate("a", 1), lengthen(d))
		wantText(t, name, text(d.Files()), `a="a\x00\x00" b="de"`)
		must(t, d.Sync("a"))
		wantText(t, name+", synced", text(d.Safe()), `a="a\x00\x00" b="de"`)
		d = withFiles(t, api.Plan{Keep: []int{-1}})
		must(t, d.Truncate("a", 1), lengthen(d), d.Start(api.Plan{}))
		wantText(t, name+", survived", text(d.Files()), `a="a\x00\x00" b="de"`)
	}
}

func TestMaxFile(t *testing.T) { // P1.3
	d := disk.New(api.Plan{Room: api.MaxFile + 1})
	must(t, d.Create("a"), d.Create("b"))
	wantErrno(t, "Truncate to the limit", d.Truncate("a", api.MaxFile), api.OK)
	wantErrno(t, "Append of nothing at the limit", d.Append("a", nil), api.OK)
	wantErrno(t, "Append of a byte at the limit", d.Append("a", []byte("x")), api.ErrLong)
	wantErrno(t, "WriteAt of the last byte", d.WriteAt("a", api.MaxFile-1, []byte("x")), api.OK)
	wantErrno(t, "WriteAt of a byte more", d.WriteAt("a", api.MaxFile-1, []byte("xy")), api.ErrLong)
	wantErrno(t, "WriteAt of nothing at the limit", d.WriteAt("a", api.MaxFile, nil), api.OK)
	wantText(t, "sizes", sizes(d), fmt.Sprintf("a:%d b:0", api.MaxFile))
	b, e := d.Read("a", api.MaxFile-2, 2)
	wantErrno(t, "Read of the last bytes", e, api.OK)
	wantText(t, "the last bytes", string(b), "\x00x")
	wantErrno(t, "another file, with room", d.Append("b", []byte("x")), api.OK)
	wantErrno(t, "another file, without", d.Append("b", []byte("x")), api.ErrFull)
}

func TestSync(t *testing.T) { // P1.3
	d := withFiles(t, api.Plan{Keep: []int{0}})
	must(t, d.Append("a", []byte("d")), d.WriteAt("a", 0, []byte("X")), d.Append("b", []byte("f")), d.Sync("a"))
	wantText(t, "the data", text(d.Files()), `a="Xbcd" b="def"`)
	wantText(t, "what is safe", text(d.Safe()), `a="Xbcd" b="de"`)
	must(t, d.Truncate("a", 1), d.Sync("a"), d.Sync("a"))
	wantText(t, "what is safe", text(d.Safe()), `a="X" b="de"`)
	must(t, d.Start(api.Plan{}))
	wantText(t, "behind Start", text(d.Files()), `a="X" b="de"`)
}

func TestSyncedChangesTakeNoNumber(t *testing.T) { // P1.3: a synced file has no changes
	d := withFiles(t, api.Plan{Keep: []int{1, 2}})
	must(t, d.Append("a", []byte("xy")), d.Sync("a"), d.Append("b", []byte("xy")), d.Start(api.Plan{}))
	wantText(t, "behind Start", text(d.Files()), `a="abcxy" b="dex"`)
}

func TestRename(t *testing.T) { // P1.3
	d := withFiles(t, api.Plan{Keep: []int{1}})
	must(t, d.Append("a", []byte("xy")), d.Rename("a", "z"))
	wantText(t, "the data", text(d.Files()), `b="de" z="abcxy"`)
	wantText(t, "what is safe", text(d.Safe()), `b="de" z="abc"`)
	wantErrno(t, "the old name", d.Sync("a"), api.ErrNoFile)
	must(t, d.Start(api.Plan{}))
	wantText(t, "its changes went along", text(d.Files()), `b="de" z="abcx"`)
}

func TestRenameOver(t *testing.T) { // P1.3
	d := withFiles(t, api.Plan{Keep: []int{1}})
	must(t, d.Append("b", []byte("uvw")), d.Append("a", []byte("xy")), d.Rename("a", "b"))
	wantText(t, "the data", text(d.Files()), `b="abcxy"`)
	wantText(t, "what is safe", text(d.Safe()), `b="abc"`)
	must(t, d.Start(api.Plan{}))
	wantText(t, "behind Start", text(d.Files()), `b="abcx"`)
}

func TestRenameToItself(t *testing.T) { // P1.3
	d := withFiles(t, api.Plan{Keep: []int{1}})
	must(t, d.Append("a", []byte("xy")))
	wantErrno(t, "Rename", d.Rename("a", "a"), api.OK)
	wantText(t, "the data", text(d.Files()), `a="abcxy" b="de"`)
	wantText(t, "what is safe", text(d.Safe()), `a="abc" b="de"`)
	if d.Ops() != 2 {
		t.Errorf("%d operations were counted", d.Ops())
	}
	must(t, d.Start(api.Plan{}))
	wantText(t, "behind Start", text(d.Files()), `a="abcx" b="de"`)
}

func TestRemove(t *testing.T) { // P1.3
	d := withFiles(t, api.Plan{Keep: []int{-1}})
	must(t, d.Append("a", []byte("x")), d.Remove("a"))
	wantText(t, "the data", text(d.Files()), `b="de"`)
	wantText(t, "what is safe", text(d.Safe()), `b="de"`)
	wantErrno(t, "again", d.Remove("a"), api.ErrNoFile)
	must(t, d.Create("a"), d.Remove("b"), d.Start(api.Plan{}))
	wantText(t, "behind Start", text(d.Files()), `a=""`)
}
