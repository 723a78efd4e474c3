package disk_test

import (
	"fmt"
	"math"
	"testing"

	"cairn/api"
	"cairn/disk"
)

func TestRead(t *testing.T) { // P1.4
	d := withFiles(t, api.Plan{})
	must(t, d.Append("a", []byte("d"))) // what isn't safe is read, too
	for _, c := range []struct {
		at, n int
		want  string
		err   api.Errno
	}{
		{0, 4, "abcd", api.OK}, {1, 2, "bc", api.OK}, {3, 1, "d", api.OK}, {0, 0, "", api.OK}, {4, 0, "", api.OK},
		{4, 1, "", api.ErrRange}, {0, 5, "", api.ErrRange}, {5, 0, "", api.ErrRange},
		{-1, 1, "", api.ErrRange}, {1, -1, "", api.ErrRange}, {-1, -1, "", api.ErrRange}, {math.MinInt, 0, "", api.ErrRange},
		{0, math.MinInt, "", api.ErrRange}, {math.MaxInt, math.MaxInt, "", api.ErrRange}, {math.MaxInt, 1, "", api.ErrRange},
		{1, math.MaxInt, "", api.ErrRange}, {5, math.MinInt, "", api.ErrRange},
	} {
		b, e := d.Read("a", c.at, c.n)
		wantErrno(t, fmt.Sprintf("Read(%d, %d)", c.at, c.n), e, c.err)
		wantText(t, fmt.Sprintf("Read(%d, %d)", c.at, c.n), string(b), c.want)
	}
	_, e := d.Read("c", -1, -1)
	wantErrno(t, "Read of none", e, api.ErrNoFile)
	n, e := d.Size("a")
	if n != 4 || e != api.OK {
		t.Errorf("Size answers %d, %d", n, e)
	}
	n, e = d.Size("c")
	if n != 0 || e != api.ErrNoFile {
		t.Errorf("Size of none answers %d, %d", n, e)
	}
	if d.Ops() != 1 {
		t.Errorf("reading was counted: %d operations", d.Ops())
	}
}

func TestReadingIsNoOperation(t *testing.T) { // P1.2, P1.4: no plan refuses it
	d := withFiles(t, api.Plan{Crash: 1, Fail: []int{1}, Full: []int{1}})
	for range 3 {
		b, e := d.Read("a", 0, 3)
		wantErrno(t, "Read", e, api.OK)
		wantText(t, "Read", string(b), "abc")
	}
	wantText(t, "reading", all(d), `ops 0 dead false files [a="abc" b="de"] safe [a="abc" b="de"] each [a:3 b:2] a 3 0 "abc" 0 b 2 0 "de" 0 a 3 0 "abc" 0 b 2 0 "de" 0`)
}

func TestReadingTheDead(t *testing.T) { // P1.4
	d := withFiles(t, api.Plan{Crash: 2, Keep: []int{1}})
	must(t, d.Append("a", []byte("xy")))
	wantErrno(t, "the crash", d.Sync("a"), api.ErrDead)
	b, e := d.Read("a", 0, 1)
	wantErrno(t, "Read", e, api.ErrDead)
	if b != nil {
		t.Errorf("Read answers %q beside its error", b)
	}
	n, e := d.Size("a")
	wantErrno(t, "Size", e, api.ErrDead)
	if n != 0 {
		t.Errorf("Size answers %d beside its error", n)
	}
	_, e = d.Read("c", -1, -1)
	wantErrno(t, "Read of none", e, api.ErrDead)
	wantText(t, "the files", text(d.Files())+sizes(d), "")
	wantText(t, "what survived", text(d.Safe()), `a="abcx" b="de"`)
}

func TestFilesStandByTheirNamesBytes(t *testing.T) { // P1.4
	d := disk.New(api.Plan{})
	for _, name := range []string{"b", "a.b", "~", "B", "aa", "a", "!", "a!", "10", "9"} {
		must(t, d.Create(name))
	}
	must(t, d.Append("a", []byte("x")), d.Rename("9", "A"))
	wantText(t, "Files", text(d.Files()), `!="" 10="" A="" B="" a="x" a!="" a.b="" aa="" b="" ~=""`)
	wantText(t, "Safe", text(d.Safe()), `!="" 10="" A="" B="" a="" a!="" a.b="" aa="" b="" ~=""`)
	wantText(t, "Each", sizes(d), "!:0 10:0 A:0 B:0 a:1 a!:0 a.b:0 aa:0 b:0 ~:0")
}

func TestEachIsLeftAndGoneOverAgain(t *testing.T) { // P1.4
	d := withFiles(t, api.Plan{})
	each := d.Each()
	for range 2 {
		got := ""
		for name, n := range each {
			got += fmt.Sprint(name, n)
			break
		}
		wantText(t, "left", got, "a3")
	}
	for range 2 {
		got := ""
		for name, n := range each {
			got += fmt.Sprint(name, n)
		}
		wantText(t, "gone over", got, "a3b2")
	}
}

func TestEachWhileTheDiskChanges(t *testing.T) { // P1, P2: what is answered hangs on the disk as it was
	d := withFiles(t, api.Plan{})
	got := ""
	for name, n := range d.Each() {
		got += fmt.Sprint(name, n)
		must(t, d.Remove(name), d.Create(name+"x"))
	}
	wantText(t, "while files go", got, "a3b2")
	wantText(t, "then", sizes(d), "ax:0 bx:0")
	each := d.Each()
	must(t, d.Append("ax", []byte("12")), d.Create("c"))
	got = ""
	for name, n := range each {
		got += fmt.Sprint(name, n)
	}
	wantText(t, "of the call", got, "ax0bx0")
}
