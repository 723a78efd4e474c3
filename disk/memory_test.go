package disk_test

import (
	"testing"

	"cairn/api"
	"cairn/disk"
)

// spoil writes over all that a list has, and what lies behind its length.
func spoil[T any](l []T, with T) {
	l = l[:cap(l)]
	for i := range l {
		l[i] = with
	}
}

func TestArgumentsAreNotKept(t *testing.T) { // P2
	keep, fail, full := []int{1}, []int{9}, []int{9}
	p := api.Plan{Keep: keep, Fail: fail, Full: full}
	d := disk.New(p)
	must(t, d.Start(p))
	fresh := disk.New(p)
	twin := fresh.Clone()
	for _, d := range []*disk.Disk{d, fresh, twin} {
		keep[0], fail[0], full[0] = 1, 9, 9
		must(t, d.Create("a"), d.Create("b"))
		b := []byte("xyz.")[:3]
		must(t, d.Append("a", b))
		spoil(b, '!')
		b = []byte("uvw.")[:3]
		must(t, d.WriteAt("b", 0, b))
		spoil(b, '!')
		keep[0], fail[0], full[0] = -1, 5, 5
		wantText(t, "the data", text(d.Files()), `a="xyz" b="uvw"`)
		twin := d.Clone()
		wantErrno(t, "operation 5", d.Append("a", nil), api.OK)
		must(t, d.Start(api.Plan{}), twin.Start(api.Plan{}))
		wantText(t, "what survived", text(d.Files()), `a="x" b="u"`)
		wantText(t, "what survived of the clone", text(twin.Files()), `a="x" b="u"`)
	}
}

func TestArgumentsAreNotChanged(t *testing.T) { // P2
	keep := []int{-1, 7, 8}[:1]
	fail := []int{8, 7, 8}[:1]
	full := []int{8, 7, 8}[:1]
	d := disk.New(api.Plan{Keep: keep, Fail: fail, Full: full})
	b := []byte("xyz.")[:3]
	must(t, d.Create("a"), d.Append("a", b), d.Append("a", b), d.WriteAt("a", 1, b), d.Truncate("a", 3))
	wantText(t, "the data", text(d.Files()), `a="xxy"`)
	must(t, d.Start(api.Plan{Keep: keep, Fail: fail, Full: full}))
	wantText(t, "the bytes", string(b[:4]), "xyz.")
	for _, l := range [][]int{keep[:3], fail[:3], full[:3]} {
		if l[1] != 7 || l[2] != 8 {
			t.Errorf("a plan's list is now %v", l)
		}
	}
}

func TestWhatLiesBehindListsIsNotRead(t *testing.T) { // P2
	d := disk.New(api.Plan{Keep: []int{1, -1}[:1], Fail: []int{9, 1}[:1], Full: []int{9, 2}[:1]})
	must(t, d.Create("a"), d.Append("a", []byte("xyz")[:2]), d.WriteAt("a", 4, []byte("xyz")[:2]))
	wantText(t, "the data", text(d.Files()), "a=\"xy\\x00\\x00xy\"")
	must(t, d.Start(api.Plan{}))
	wantText(t, "what survived", text(d.Files()), "a=\"x\\x00\\x00\\x00x\"")
}

func TestAnswersAreTheCallersOwn(t *testing.T) { // P2
	d := withFiles(t, api.Plan{Keep: []int{-1}})
	must(t, d.Append("a", []byte("xy")))
	before := all(d)
	for range 2 {
		b, _ := d.Read("a", 1, 2)
		b2, _ := d.Read("a", 1, 2)
		spoil(b, '!')
		wantText(t, "another answer of Read", string(b2), "bc")
		for _, get := range []func() []api.File{d.Files, d.Safe} {
			l, l2 := get(), get()
			had := text(l2)
			for _, f := range l {
				spoil(f.Data, '!')
			}
			spoil(l, api.File{Name: "!"})
			wantText(t, "another answer", text(l2), had)
		}
		wantText(t, "the disk", all(d), before)
		safe := d.Safe()
		d = d.Clone()
		for _, f := range safe {
			spoil(f.Data, '!')
		}
		wantText(t, "the clone", all(d), before)
	}
	must(t, d.Sync("a"))
	l := d.Safe()
	spoil(l[0].Data, '!')
	wantText(t, "behind Sync", text(d.Files())+text(d.Safe()), `a="abcxy" b="de"a="abcxy" b="de"`)
}

func TestDataAndSafeAreApart(t *testing.T) { // the word 'safe': a change reaches the data alone, till it is synced
	d := withFiles(t, api.Plan{})
	for range 3 {
		must(t, d.WriteAt("a", 0, []byte("X")))
		wantText(t, "unsynced", text(d.Files())+text(d.Safe()), `a="Xbc" b="de"a="abc" b="de"`)
		must(t, d.Truncate("a", 0), d.Append("a", []byte("YYY")))
		wantText(t, "cut and appended", text(d.Files())+text(d.Safe()), `a="YYY" b="de"a="abc" b="de"`)
		must(t, d.Sync("a"), d.WriteAt("a", 0, []byte("abc")))
		wantText(t, "synced and written", text(d.Files())+text(d.Safe()), `a="abc" b="de"a="YYY" b="de"`)
		must(t, d.Sync("a"))
		d = d.Clone()
	}
	must(t, d.Start(api.Plan{}), d.WriteAt("a", 0, []byte("X")))
	wantText(t, "behind Start", text(d.Files())+text(d.Safe()), `a="Xbc" b="de"a="abc" b="de"`)
}

func TestNilAndEmptyAreTheSame(t *testing.T) { // P3
	d := disk.New(api.Plan{})
	twin := disk.New(api.Plan{Keep: []int{}, Fail: []int{}, Full: []int{}})
	for i, d := range []*disk.Disk{d, twin} {
		b := [][]byte{nil, {}}[i]
		must(t, d.Create("a"), d.Append("a", b), d.WriteAt("a", 2, b), d.Sync("a"), d.Append("a", []byte("x")))
	}
	wantText(t, "empty ones", all(twin), all(d))
	must(t, d.Start(api.Plan{}), twin.Start(api.Plan{Keep: []int{}}))
	wantText(t, "empty ones, started again", all(twin), all(d))
}
