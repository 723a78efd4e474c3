package wal_test

import (
	"fmt"
	"slices"
	"testing"

	"cairn/api"
)

func TestTold(t *testing.T) { // P10.5
	for n := range len(some()) + 1 {
		l, d := opened(t, api.Plan{Crash: 1}, some()[:n]...)
		for range 2 {
			wantTold(t, "told", l, some()[:n])
			wantTold(t, "told again", l, some()[:n])
			d.Sync(name) // it dies: what is told hangs on the log alone
		}
		wantOps(t, "telling", d, 1)
	}
	l, _ := opened(t, api.Plan{}, batchOf("a", ""), batchOf(""), batchOf("b"))
	wantText(t, "Each", toldByEach(l), `0 "a", 0 "", 1 "", 2 "b"`)
	wantText(t, "Batches", text(l.Batches()), `["a" ""] [""] ["b"]`)
	if l.Count() != 3 || l.Size() != 4*3+12*3+4*4+2+8*3 {
		t.Errorf("%d batches, %d bytes", l.Count(), l.Size())
	}
}

func TestEachIsLeft(t *testing.T) { // P10.5
	l, _ := opened(t, api.Plan{}, some()...)
	var all []string
	for number, record := range l.Each() {
		all = append(all, fmt.Sprint(number, record))
	}
	each := l.Each()
	for stop := range len(all) + 1 {
		for range 2 { // gone over again, the same one and another
			for _, each := range []func(func(int, []byte) bool){each, l.Each()} {
				var told []string
				for number, record := range each {
					if len(told) == stop {
						break
					}
					told = append(told, fmt.Sprint(number, record))
				}
				if !slices.Equal(told, all[:stop]) {
					t.Errorf("left behind %d: %v", stop, told)
				}
			}
		}
	}
}

func TestEachWithinEach(t *testing.T) { // P10.5
	l, _ := opened(t, api.Plan{}, x, y, z)
	each := l.Each()
	outer := 0
	for number := range each {
		inner, highest := 0, 0
		for other := range each {
			inner++
			highest = other
		}
		if inner != 6 || highest != 2 {
			t.Errorf("in batch %d: %d records, to batch %d", number, inner, highest)
		}
		outer++
	}
	if outer != 6 {
		t.Errorf("%d records", outer)
	}
}

func TestEachTellsWhatTheLogHadThen(t *testing.T) { // P10.5, P3
	l, _ := opened(t, api.Plan{Fail: []int{10}}, x, y)
	had, want := l.Each(), toldByEach(l)
	for i := range 3 {
		must(t, l.Append(z))
		wantText(t, "behind Append", tell(had), want)
		if i == 1 {
			must(t, l.Reset())
			wantText(t, "behind Reset", tell(had), want)
		}
	}
	wantErrno(t, "Append's error", l.Append(x), api.ErrIO)
	wantText(t, "behind an error", tell(had), want)
	wantTold(t, "the log", l, [][][]byte{z})
	for number := range l.Each() { // whoever ranges may work on the log
		if number > 0 {
			t.Error("what was appended meanwhile is told")
		}
		must(t, l.Append(y))
		must(t, l.Reset(), l.Append(x), l.Append(x))
	}
	wantTold(t, "worked on", l, [][][]byte{x, x})
}

func TestEachOutlivesReset(t *testing.T) { // P10.5, P3: however many batches lie in memory, what comes behind Reset is none of them
	for n := range 10 {
		l, _ := opened(t, api.Plan{})
		for i := range n {
			must(t, l.Append(batchOf(fmt.Sprint("old ", i))))
		}
		had, want := l.Each(), toldByEach(l)
		must(t, l.Reset())
		for range n {
			must(t, l.Append(batchOf("new")))
		}
		wantText(t, fmt.Sprint(n, " batches"), tell(had), want)
		if n > 0 {
			wantText(t, "the log", toldByEach(l)[:7], `0 "new"`)
		}
	}
}
