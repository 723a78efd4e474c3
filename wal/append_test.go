package wal_test

import (
	"fmt"
	"slices"
	"testing"

	"cairn/api"
	"cairn/disk"
	"cairn/wal"
)

var x, y, z = batchOf("x"), batchOf("y", ""), batchOf("z", "zz", "zzz")

func TestAppend(t *testing.T) { // P10.4
	d := disk.New(api.Plan{})
	l, e := wal.Open(d, name)
	must(t, e)
	for i, batch := range some() {
		wantErrno(t, "Append", l.Append(batch), api.OK)
		want := some()[:i+1]
		wantTold(t, "appended", l, want)
		wantFile(t, "appended", d, row(want...), row(want...))
		wantOps(t, "appended", d, 1+2*(i+1))
	}
	wantTold(t, "behind a crash", reopened(t, d), some())
}

func TestAppendUpToTheLimits(t *testing.T) { // P10.4
	for what, batch := range good() {
		l, d := opened(t, api.Plan{}, x)
		wantErrno(t, what, l.Append(batch), api.OK)
		m := reopened(t, d)
		for _, l := range []*wal.Log{l, m} {
			if want := [][][]byte{x, batch}; !same(l.Batches(), want) || l.Count() != 2 || l.Size() != len(row(want...)) {
				t.Errorf("%s: %d batches, %d bytes", what, l.Count(), l.Size())
			}
		}
	}
}

func TestAppendOfNoBatch(t *testing.T) { // P10.4: ErrBatch ahead of all that the disk would answer; and nothing is to be set right behind it
	for what, batch := range bad() {
		l, d := opened(t, api.Plan{Crash: 1}, x)
		wantErrno(t, what, l.Append(batch), api.ErrBatch)
		wantOps(t, what, d, 0)
		wantTold(t, what, l, [][][]byte{x})
		wantErrno(t, "the crash", d.Sync(name), api.ErrDead)
		wantErrno(t, what+", dead", l.Append(batch), api.ErrBatch)

		l, d = opened(t, api.Plan{}, x)
		wantErrno(t, what, l.Append(batch), api.ErrBatch)
		must(t, l.Append(y))
		wantOps(t, what+", then one", d, 2)
		wantFile(t, what+", then one", d, row(x, y), row(x, y))

		l, d = opened(t, api.Plan{Fail: []int{2}}, x)
		wantErrno(t, "Sync's error", l.Append(y), api.ErrIO)
		wantErrno(t, what, l.Append(batch), api.ErrBatch)
		wantOps(t, what+", behind an error", d, 2)
		wantFile(t, what+", behind an error", d, row(x, y), row(x))
	}
}

// failing is what the disk answers at an operation of a call, and what the file has then.
type failing struct {
	what       string
	plan       api.Plan
	want       api.Errno
	ops        int
	data, safe []byte
}

// afterwards appends z where an error was answered: the file is truncated and synced first, and from then on all is as ever.
func afterwards(t *testing.T, what string, l *wal.Log, d *disk.Disk, had ...[][]byte) {
	t.Helper()
	if d.Dead() {
		must(t, d.Start(api.Plan{}))
	}
	ops := d.Ops()
	wantErrno(t, what+", Append again", l.Append(z), api.OK)
	wantOps(t, what+", Append again", d, ops+4)
	had = append(had, z)
	wantTold(t, what+", Append again", l, had)
	wantFile(t, what+", Append again", d, row(had...), row(had...))
	must(t, l.Append(y))
	wantOps(t, what+", and once more", d, ops+6)
	had = append(had, y)
	wantFile(t, what+", and once more", d, row(had...), row(had...))
	wantTold(t, what+", behind a crash", reopened(t, d), had)
}

func TestAppendWhereTheDiskFails(t *testing.T) { // P10.4
	for _, f := range []failing{
		{"Append fails", api.Plan{Fail: []int{1}}, api.ErrIO, 1, row(x), row(x)},
		{"no room to Append", api.Plan{Full: []int{1}}, api.ErrFull, 1, row(x), row(x)},
		{"not room enough", api.Plan{Room: len(row(x, y)) - 1}, api.ErrFull, 1, row(x), row(x)},
		{"it dies ahead of Append", api.Plan{Crash: 1, Keep: []int{-1}}, api.ErrDead, 1, row(x), row(x)},
		{"Sync fails", api.Plan{Fail: []int{2}}, api.ErrIO, 2, row(x, y), row(x)},
		{"it dies ahead of Sync, all is lost", api.Plan{Crash: 2}, api.ErrDead, 2, row(x), row(x)},
		{"it dies ahead of Sync, nothing is lost", api.Plan{Crash: 2, Keep: []int{-1}}, api.ErrDead, 2, row(x, y), row(x, y)},
		{"it dies ahead of Sync, a piece is lost", api.Plan{Crash: 2, Keep: []int{9}}, api.ErrDead, 2, row(x, y)[:len(row(x))+9], row(x, y)[:len(row(x))+9]},
	} {
		l, d := opened(t, f.plan, x)
		wantErrno(t, f.what, l.Append(y), f.want)
		wantOps(t, f.what, d, f.ops)
		wantTold(t, f.what, l, [][][]byte{x})
		if f.want == api.ErrDead {
			wantErrno(t, f.what+", dead", l.Append(y), api.ErrDead)
			wantTold(t, f.what+", dead", l, [][][]byte{x})
			must(t, d.Start(api.Plan{}))
		}
		wantFile(t, f.what, d, f.data, f.safe)
		if f.plan.Room > 0 { // z would have none, either
			must(t, d.Start(api.Plan{}))
		}
		afterwards(t, f.what, l, d, x)
	}
}

// unsure is a log of which y's Append has failed at its Sync, so that y's bytes stand in the file, unsynced.
func unsure(t *testing.T, p api.Plan) (*wal.Log, *disk.Disk) {
	t.Helper()
	p.Fail = append(p.Fail, 2)
	l, d := opened(t, p, x)
	wantErrno(t, "Sync's error", l.Append(y), api.ErrIO)
	wantFile(t, "behind Sync's error", d, row(x, y), row(x))
	return l, d
}

func TestAppendBehindAnError(t *testing.T) { // P10.4: Truncate, Sync, Append, Sync, each of which may fail
	for _, f := range []failing{
		{"Truncate fails", api.Plan{Fail: []int{3}}, api.ErrIO, 3, row(x, y), row(x)},
		{"no room to Truncate", api.Plan{Full: []int{3}}, api.ErrFull, 3, row(x, y), row(x)},
		{"it dies ahead of Truncate, all is lost", api.Plan{Crash: 3}, api.ErrDead, 3, row(x), row(x)},
		{"it dies ahead of Truncate, nothing is lost", api.Plan{Crash: 3, Keep: []int{-1}}, api.ErrDead, 3, row(x, y), row(x, y)},
		{"the first Sync fails", api.Plan{Fail: []int{4}}, api.ErrIO, 4, row(x), row(x)},
		{"it dies ahead of the first Sync, the cut is lost", api.Plan{Crash: 4, Keep: []int{-1, 0}}, api.ErrDead, 4, row(x, y), row(x, y)},
		{"it dies ahead of the first Sync, the cut survives", api.Plan{Crash: 4, Keep: []int{-1}}, api.ErrDead, 4, row(x), row(x)},
		{"Append fails", api.Plan{Fail: []int{5}}, api.ErrIO, 5, row(x), row(x)},
		{"no room to Append", api.Plan{Full: []int{5}}, api.ErrFull, 5, row(x), row(x)},
		{"it dies ahead of Append", api.Plan{Crash: 5, Keep: []int{-1, 0}}, api.ErrDead, 5, row(x), row(x)},
		{"the last Sync fails", api.Plan{Fail: []int{6}}, api.ErrIO, 6, row(x, z), row(x)},
		{"it dies ahead of the last Sync, all is lost", api.Plan{Crash: 6}, api.ErrDead, 6, row(x), row(x)},
		{"it dies ahead of the last Sync, nothing is lost", api.Plan{Crash: 6, Keep: []int{-1}}, api.ErrDead, 6, row(x, z), row(x, z)},
	} {
		l, d := unsure(t, f.plan)
		wantErrno(t, f.what, l.Append(z), f.want)
		wantOps(t, f.what, d, f.ops)
		wantTold(t, f.what, l, [][][]byte{x})
		if f.want == api.ErrDead {
			must(t, d.Start(api.Plan{}))
		}
		wantFile(t, f.what, d, f.data, f.safe)
		afterwards(t, f.what, l, d, x)
	}
}

func TestTheCutIsSyncedAheadOfAppend(t *testing.T) { // P10.4
	l, d := unsure(t, api.Plan{Fail: []int{4}, Keep: []int{1, 0}})
	wantErrno(t, "the first Sync fails", l.Append(z), api.ErrIO)
	wantFile(t, "cut, unsynced", d, row(x), row(x))
	if e := d.Start(api.Plan{}); e != api.OK {
		t.Fatal(e)
	}
	torn := append(row(x), row(x, y)[len(row(x))])
	wantFile(t, "of what was unsynced a byte survives, and the cut does not", d, torn, torn)
}

func TestErrorsThatAreNotSetRight(t *testing.T) { // P10.4: one error behind the other, of many kinds, till all four operations are done
	fails := []int{2, 3, 5, 8, 12, 13}
	l, d := opened(t, api.Plan{Fail: fails, Full: []int{16}}, x)
	for i, ops := range []int{2, 3, 5, 8, 12, 13, 16} {
		want := api.ErrIO
		if i == 6 {
			want = api.ErrFull
		}
		what := fmt.Sprint("Append ", i)
		wantErrno(t, what, l.Append(z), want)
		wantOps(t, what, d, ops)
		wantTold(t, what, l, [][][]byte{x})
	}
	afterwards(t, "behind seven errors", l, d, x)
}

func TestAppendWhereTheFileIsGone(t *testing.T) { // P10.4: ErrNoFile
	l, d := opened(t, api.Plan{}, x)
	must(t, d.Rename(name, "away"))
	for i := range 3 {
		wantErrno(t, "Append", l.Append(y), api.ErrNoFile)
		wantOps(t, "Append", d, 2+i)
		wantTold(t, "Append", l, [][][]byte{x})
	}
	must(t, d.Rename("away", name))
	afterwards(t, "there again", l, d, x)
}

func TestAppendToTheLongestFile(t *testing.T) { // P10.4: the disk's ErrLong
	l, d := opened(t, api.Plan{}, x)
	must(t, d.Truncate(name, api.MaxFile-len(row(x))))
	wantErrno(t, "Append", l.Append(y), api.ErrLong)
	wantTold(t, "Append", l, [][][]byte{x})
	afterwards(t, "cut off", l, d, x)
}

func TestOneAppendAndOneSync(t *testing.T) { // P10.4: the batch's bytes come to the file all at once
	l, d := opened(t, api.Plan{}, x)
	big := manyOf(200, 1000)
	must(t, l.Append(big))
	wantOps(t, "a big batch", d, 2)
	for cut := range 40 {
		l, d := opened(t, api.Plan{Crash: 2, Keep: []int{cut * 5000}}, x)
		wantErrno(t, "the crash", l.Append(big), api.ErrDead)
		b := row(x, big)[:len(row(x))+cut*5000]
		must(t, d.Start(api.Plan{}))
		wantFile(t, "torn", d, b, b)
	}
}

func TestRoomAgain(t *testing.T) { // P10.4
	l, d := opened(t, api.Plan{Room: len(row(x, y))}, x)
	for range 3 {
		wantErrno(t, "z has no room", l.Append(z), api.ErrFull)
	}
	wantErrno(t, "y has", l.Append(y), api.OK)
	wantTold(t, "y has", l, [][][]byte{x, y})
	wantErrno(t, "nothing has any more", l.Append(batchOf("")), api.ErrFull)
	wantFile(t, "full", d, row(x, y), row(x, y))
	must(t, l.Reset())
	wantErrno(t, "behind Reset", l.Append(y), api.OK)
	wantFile(t, "behind Reset", d, row(y), row(y))
}

func TestLogsOfTheirOwn(t *testing.T) { // P10.4: two logs on one disk do not meet
	d := disk.New(api.Plan{})
	a, e := wal.Open(d, "a")
	b, e2 := wal.Open(d, "b")
	must(t, e, e2, a.Append(x), b.Append(y), a.Append(z), b.Append(x), b.Append(x))
	wantTold(t, "a", a, [][][]byte{x, z})
	must(t, a.Reset())
	wantTold(t, "a, reset", a, nil)
	wantTold(t, "b", b, [][][]byte{y, x, x})
	must(t, d.Start(api.Plan{}))
	c, e := wal.Open(d, "b")
	must(t, e)
	wantTold(t, "b, opened again", c, slices.Clone([][][]byte{y, x, x}))
}
