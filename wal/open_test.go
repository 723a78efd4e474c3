package wal_test

import (
	"bytes"
	"fmt"
	"slices"
	"strings"
	"testing"

	"cairn/api"
	"cairn/disk"
	"cairn/wal"
)

// wantRefused holds Open against an error, beside which there is no log.
func wantRefused(t *testing.T, what string, d *disk.Disk, file string, want api.Errno) {
	t.Helper()
	l, e := wal.Open(d, file)
	wantErrno(t, what, e, want)
	if l != nil {
		t.Errorf("%s: a log beside the error", what)
	}
}

func TestOpenCreates(t *testing.T) { // P10.3
	d := disk.New(api.Plan{})
	l, e := wal.Open(d, name)
	wantErrno(t, "Open", e, api.OK)
	wantTold(t, "a new log", l, nil)
	wantFile(t, "a new log", d, nil, nil)
	wantOps(t, "a new log", d, 1)
	l, e = wal.Open(d, name)
	wantErrno(t, "Open of an empty file", e, api.OK)
	wantTold(t, "an empty file", l, nil)
	wantOps(t, "an empty file", d, 1)
	must(t, l.Append(batchOf("a")))
	wantFile(t, "appended", d, row(batchOf("a")), row(batchOf("a")))
}

func TestOpenByNames(t *testing.T) { // P10.3: Create's ErrName
	for _, file := range []string{"", "a/b", "a b", "\x7f", strings.Repeat("n", api.MaxName+1)} {
		d := disk.New(api.Plan{})
		wantRefused(t, fmt.Sprintf("%q", file), d, file, api.ErrName)
		wantOps(t, "a name that may not be", d, 1)
		if len(d.Files()) > 0 {
			t.Errorf("%q: there are files", file)
		}
	}
	for _, file := range []string{"a", "~", strings.Repeat("n", api.MaxName)} {
		d := disk.New(api.Plan{})
		l, e := wal.Open(d, file)
		must(t, e, l.Append(batchOf("a")))
		m, e := wal.Open(d, file)
		must(t, e)
		wantTold(t, file, m, [][][]byte{batchOf("a")})
	}
}

func TestOpenOnAFullDisk(t *testing.T) { // P10.3: Create's ErrLong
	d := disk.New(api.Plan{})
	for i := range api.MaxFiles {
		must(t, d.Create(fmt.Sprint(i)))
	}
	wantRefused(t, "MaxFiles files", d, name, api.ErrLong)
	l, e := wal.Open(d, "17")
	wantErrno(t, "one that is there", e, api.OK)
	wantTold(t, "one that is there", l, nil)
}

func TestOpenWhereCreateFails(t *testing.T) { // P10.3
	for want, p := range map[api.Errno]api.Plan{api.ErrIO: {Fail: []int{1}}, api.ErrFull: {Full: []int{1}}, api.ErrDead: {Crash: 1}} {
		d := disk.New(p)
		wantRefused(t, "Create's error", d, name, want)
		wantOps(t, "Create's error", d, 1)
		if len(d.Safe()) > 0 {
			t.Errorf("error %d: there is a file", want)
		}
		if want == api.ErrDead {
			wantRefused(t, "a dead disk", d, name, api.ErrDead)
			must(t, d.Start(api.Plan{}))
		}
		l, e := wal.Open(d, name)
		must(t, e)
		wantTold(t, "created at last", l, nil)
	}
}

func TestOpenOnADeadDisk(t *testing.T) { // P10.3: Size's error
	dead := laid(t, row(some()...), api.Plan{Crash: 1})
	wantErrno(t, "the crash", dead.Create("x"), api.ErrDead)
	for what, d := range map[string]*disk.Disk{"nil": nil, "one that New did not make": {}, "a dead one": dead} {
		wantRefused(t, what, d, name, api.ErrDead)
		wantRefused(t, what, d, "none", api.ErrDead)
		wantRefused(t, what, d, "", api.ErrDead)
	}
	wantTold(t, "started again", reopened(t, dead), some())
}

func TestOpenOfWhatIsWhole(t *testing.T) { // P10.3: nothing is cut off, so no operation is done, whatever it would answer
	for n := range len(some()) + 1 {
		data := row(some()[:n]...)
		for _, p := range []api.Plan{{}, {Crash: 1}, {Fail: []int{1}}, {Full: []int{1}}, {Room: 1}} {
			d := laid(t, data, p)
			l, e := wal.Open(d, name)
			wantErrno(t, "Open", e, api.OK)
			wantTold(t, "opened", l, some()[:n])
			wantFile(t, "opened", d, data, data)
			wantOps(t, "opened", d, 0)
		}
	}
}

// tails are what may stand behind a log's two batches x and y that is no third one: torn ones, old ones, an adversary's.
func tails() map[string][]byte {
	third := plain(2, batchOf("third", "one"))
	m := map[string][]byte{
		"a nought":               {0},
		"noughts":                make([]byte, 100),
		"bytes of 255":           bytes.Repeat([]byte{255}, 100),
		"the number 3":           plain(3, batchOf("a")),
		"the number 1 again":     plain(1, batchOf("a")),
		"a log of its own":       row(some()...),
		"an adversary's body":    sealed(bodyOf(2, 1, recordOf(make([]byte, api.MaxRecord+1)))),
		"one that has no record": sealed(bodyOf(2, 0)),
		"the greatest lengths":   append(least(1<<32-1, 4), bytes.Repeat([]byte{255}, 40)...),
		"another digest":         append(slices.Clone(third[:len(third)-1]), third[len(third)-1]^1),
		"torn, then a whole one": append(slices.Clone(third[:9]), plain(2, batchOf("a"))...),
	}
	for n := 1; n < len(third); n++ {
		m[fmt.Sprint("the first ", n, " bytes of a third")] = third[:n]
	}
	return m
}

func TestOpenCutsOffTheRest(t *testing.T) { // P10.3
	l2 := [][][]byte{batchOf("x"), batchOf("", "y")}
	for n := range len(l2) + 1 {
		whole := row(l2[:n]...)
		for what, tail := range tails() {
			if n < 2 && (what == "a log of its own" || strings.HasSuffix(what, "again")) {
				continue // these are batches there
			}
			d := laid(t, append(slices.Clone(whole), tail...), api.Plan{Keep: []int{0}})
			must(t, d.Create("other"))
			l, e := wal.Open(d, name)
			wantErrno(t, what, e, api.OK)
			wantTold(t, what, l, l2[:n])
			wantFile(t, what, d, whole, whole)
			wantOps(t, what, d, 3)
			must(t, l.Append(batchOf("next")))
			wantOps(t, what+", appended", d, 5)
			want := append(l2[:n:n], batchOf("next"))
			wantTold(t, what+", appended", l, want)
			wantTold(t, what+", opened again", reopened(t, d), want)
		}
	}
}

func TestOpenWhereCuttingFails(t *testing.T) { // P10.3
	whole := row(batchOf("x"))
	all := append(slices.Clone(whole), "torn"...)
	for _, x := range []struct {
		what       string
		plan       api.Plan
		want       api.Errno
		ops        int
		data, safe []byte
	}{
		{"Truncate fails", api.Plan{Fail: []int{1}}, api.ErrIO, 1, all, all},
		{"no room to Truncate", api.Plan{Full: []int{1}}, api.ErrFull, 1, all, all},
		{"it dies ahead of Truncate", api.Plan{Crash: 1}, api.ErrDead, 1, all, all},
		{"Sync fails", api.Plan{Fail: []int{2}}, api.ErrIO, 2, whole, all},
		{"it dies ahead of Sync, the cut is lost", api.Plan{Crash: 2}, api.ErrDead, 2, all, all},
		{"it dies ahead of Sync, the cut survives", api.Plan{Crash: 2, Keep: []int{1}}, api.ErrDead, 2, whole, whole},
	} {
		d := laid(t, all, x.plan)
		wantRefused(t, x.what, d, name, x.want)
		wantOps(t, x.what, d, x.ops)
		if x.want == api.ErrDead {
			wantRefused(t, x.what+", dead", d, name, api.ErrDead)
			must(t, d.Start(api.Plan{}))
		}
		wantFile(t, x.what, d, x.data, x.safe)
		l, e := wal.Open(d, name)
		wantErrno(t, x.what+", opened again", e, api.OK)
		wantTold(t, x.what+", opened again", l, [][][]byte{batchOf("x")})
	}
	d := laid(t, all, api.Plan{Room: 1, Full: []int{2}})
	if _, e := wal.Open(d, name); e != api.OK {
		t.Errorf("on a disk that is too full, where a cut has room: %d", e)
	}
}

func TestOpenTouchesNoOtherFile(t *testing.T) { // P10.3
	d := laid(t, append(row(batchOf("x")), 1), api.Plan{})
	must(t, d.Create("LOG2"), d.Append("LOG2", []byte("torn")), d.Create("L"), d.Append("L", row(some()...)))
	_, e := wal.Open(d, name)
	must(t, e)
	for file, want := range map[string][]byte{"LOG2": []byte("torn"), "L": row(some()...)} {
		b, e := d.Read(file, 0, len(want))
		if n, _ := d.Size(file); e != api.OK || n != len(want) || !bytes.Equal(b, want) {
			t.Errorf("%s has %q", file, b)
		}
	}
	for _, f := range d.Safe() {
		if f.Name != name && len(f.Data) > 0 {
			t.Errorf("%s was synced", f.Name)
		}
	}
}
