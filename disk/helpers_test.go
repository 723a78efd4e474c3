package disk_test

import (
	"fmt"
	"strings"
	"testing"

	"cairn/api"
	"cairn/disk"
)

// text tells files on one line: a="abc" b="".
func text(l []api.File) string {
	var parts []string
	for _, f := range l {
		parts = append(parts, fmt.Sprintf("%s=%q", f.Name, f.Data))
	}
	return strings.Join(parts, " ")
}

// sizes tells what Each does: a:3 b:0.
func sizes(d *disk.Disk) string {
	var parts []string
	for name, n := range d.Each() {
		parts = append(parts, fmt.Sprintf("%s:%d", name, n))
	}
	return strings.Join(parts, " ")
}

// all tells everything that can be asked of a disk without changing it.
func all(d *disk.Disk) string {
	s := fmt.Sprintf("ops %d dead %v files [%s] safe [%s] each [%s]", d.Ops(), d.Dead(), text(d.Files()), text(d.Safe()), sizes(d))
	for _, f := range append(d.Files(), d.Safe()...) {
		n, e := d.Size(f.Name)
		b, e2 := d.Read(f.Name, 0, n)
		s += fmt.Sprintf(" %s %d %d %q %d", f.Name, n, e, b, e2)
	}
	return s
}

func wantErrno(t *testing.T, what string, got, want api.Errno) {
	t.Helper()
	if got != want {
		t.Errorf("%s: got error %d, want %d", what, got, want)
	}
}

func wantText(t *testing.T, what, got, want string) {
	t.Helper()
	if got != want {
		t.Errorf("%s: got %s, want %s", what, got, want)
	}
}

// must fails the test at once if something that it only prepares is refused.
func must(t *testing.T, es ...api.Errno) {
	t.Helper()
	for i, e := range es {
		if e != api.OK {
			t.Fatalf("preparing: call %d answered %d", i, e)
		}
	}
}

// withFiles is a disk with the synced files a="abc" and b="de" that goes by plan p from its first operation on.
func withFiles(t *testing.T, p api.Plan) *disk.Disk {
	t.Helper()
	d := disk.New(api.Plan{})
	must(t, d.Create("a"), d.Append("a", []byte("abc")), d.Sync("a"))
	must(t, d.Create("b"), d.Append("b", []byte("de")), d.Sync("b"))
	must(t, d.Start(p))
	return d
}

// operation is a call of P1.3, ready to be done to some disk.
type operation struct {
	name string
	do   func(d *disk.Disk) api.Errno
}

// operations are one call of each kind, all of which a disk of withFiles does; those that may be refused with ErrFull ahead.
func operations() []operation {
	return []operation{
		{"Create", func(d *disk.Disk) api.Errno { return d.Create("c") }},
		{"Append", func(d *disk.Disk) api.Errno { return d.Append("a", []byte("x")) }},
		{"WriteAt", func(d *disk.Disk) api.Errno { return d.WriteAt("a", 0, []byte("x")) }},
		{"Truncate", func(d *disk.Disk) api.Errno { return d.Truncate("a", 1) }},
		{"Sync", func(d *disk.Disk) api.Errno { return d.Sync("a") }},
		{"Rename", func(d *disk.Disk) api.Errno { return d.Rename("a", "b") }},
		{"Remove", func(d *disk.Disk) api.Errno { return d.Remove("a") }},
	}
}

// source is a row of numbers that is the same at every run.
type source uint64

func (s *source) below(n int) int {
	*s = *s*6364136223846793005 + 1442695040888963407
	return int(uint64(*s) >> 33 % uint64(n))
}
