package wal_test

import (
	"testing"

	"cairn/api"
	"cairn/wal"
)

func TestReset(t *testing.T) { // P10.6
	for n := range len(some()) + 1 {
		l, d := opened(t, api.Plan{}, some()[:n]...)
		wantErrno(t, "Reset", l.Reset(), api.OK)
		wantTold(t, "Reset", l, nil)
		wantFile(t, "Reset", d, nil, nil)
		wantOps(t, "Reset", d, 2)
		wantErrno(t, "Reset again", l.Reset(), api.OK)
		wantOps(t, "Reset again", d, 4)
		must(t, l.Append(y), l.Append(x))
		wantOps(t, "two more", d, 8)
		wantTold(t, "numbered from 0 on", l, [][][]byte{y, x})
		wantFile(t, "numbered from 0 on", d, row(y, x), row(y, x))
		wantTold(t, "behind a crash", reopened(t, d), [][][]byte{y, x})
	}
}

func TestResetWhereTruncateFails(t *testing.T) { // P10.6: nothing has changed; P10.4: the next Append sets it right
	for _, f := range []failing{
		{what: "Truncate fails", plan: api.Plan{Fail: []int{1}}, want: api.ErrIO},
		{what: "no room to Truncate", plan: api.Plan{Full: []int{1}}, want: api.ErrFull},
		{what: "it dies ahead of Truncate", plan: api.Plan{Crash: 1, Keep: []int{-1}}, want: api.ErrDead},
	} {
		l, d := opened(t, f.plan, x, y)
		wantErrno(t, f.what, l.Reset(), f.want)
		wantOps(t, f.what, d, 1)
		wantTold(t, f.what, l, [][][]byte{x, y})
		if d.Dead() {
			wantErrno(t, f.what+", dead", l.Reset(), api.ErrDead)
			wantTold(t, f.what+", dead", l, [][][]byte{x, y})
			must(t, d.Start(api.Plan{}))
		}
		wantFile(t, f.what, d, row(x, y), row(x, y))
		afterwards(t, f.what, l, d, x, y)
	}
}

func TestResetWhereSyncFails(t *testing.T) { // P10.6: there are no batches any more; P10.4: the next Append sets it right
	for _, f := range []failing{
		{"Sync fails", api.Plan{Fail: []int{2}}, api.ErrIO, 2, nil, row(x, y)},
		{"it dies ahead of Sync, the cut is lost", api.Plan{Crash: 2}, api.ErrDead, 2, row(x, y), row(x, y)},
		{"it dies ahead of Sync, the cut survives", api.Plan{Crash: 2, Keep: []int{3}}, api.ErrDead, 2, nil, nil},
	} {
		l, d := opened(t, f.plan, x, y)
		wantErrno(t, f.what, l.Reset(), f.want)
		wantOps(t, f.what, d, f.ops)
		wantTold(t, f.what, l, nil)
		if d.Dead() {
			wantErrno(t, f.what+", dead", l.Reset(), api.ErrDead)
			wantErrno(t, f.what+", dead", l.Append(x), api.ErrDead)
			wantTold(t, f.what+", dead", l, nil)
			must(t, d.Start(api.Plan{}))
		}
		wantFile(t, f.what, d, f.data, f.safe)
		afterwards(t, f.what, l, d)
	}
}

func TestResetWhereTheFileIsGone(t *testing.T) { // P10.6: ErrNoFile
	l, d := opened(t, api.Plan{}, x)
	must(t, d.Rename(name, "away"))
	wantErrno(t, "Reset", l.Reset(), api.ErrNoFile)
	wantTold(t, "Reset", l, [][][]byte{x})
	must(t, d.Rename("away", name))
	afterwards(t, "there again", l, d, x)
}

func TestResetSetsRight(t *testing.T) { // P10.4: behind a Reset that answered OK nothing is to be set right
	l, d := unsure(t, api.Plan{})
	wantErrno(t, "Reset behind an error", l.Reset(), api.OK)
	wantTold(t, "Reset behind an error", l, nil)
	wantOps(t, "Reset behind an error", d, 4)
	wantFile(t, "Reset behind an error", d, nil, nil)
	must(t, l.Append(z))
	wantOps(t, "Append behind Reset", d, 6)
	wantFile(t, "Append behind Reset", d, row(z), row(z))

	for _, fail := range []int{1, 2} {
		l, d := opened(t, api.Plan{Fail: []int{fail}}, x)
		wantErrno(t, "Reset", l.Reset(), api.ErrIO)
		wantErrno(t, "Reset again", l.Reset(), api.OK)
		must(t, l.Append(z))
		wantOps(t, "Append behind Reset", d, fail+4)
		wantFile(t, "Append behind Reset", d, row(z), row(z))
	}
}

func TestResetBehindAnErrorThatFails(t *testing.T) { // P10.4, P10.6
	l, d := unsure(t, api.Plan{Fail: []int{3}})
	wantErrno(t, "Truncate fails", l.Reset(), api.ErrIO)
	wantTold(t, "Truncate fails", l, [][][]byte{x})
	wantFile(t, "Truncate fails", d, row(x, y), row(x))
	afterwards(t, "Truncate fails", l, d, x)

	l, d = unsure(t, api.Plan{Fail: []int{4}})
	wantErrno(t, "Sync fails", l.Reset(), api.ErrIO)
	wantTold(t, "Sync fails", l, nil)
	wantFile(t, "Sync fails", d, nil, row(x))
	afterwards(t, "Sync fails", l, d)
}

func TestResetOfOneLogThatIsOpenedAgain(t *testing.T) { // P10.6
	l, d := opened(t, api.Plan{}, x, y)
	must(t, l.Reset())
	m, e := wal.Open(d, name)
	must(t, e)
	wantTold(t, "opened again", m, nil)
	wantOps(t, "opened again", d, 2)
}
