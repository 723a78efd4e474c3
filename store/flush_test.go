package store_test

import (
	"maps"
	"testing"

	"cairn/api"
)

func TestFlushOfAnEmptyLog(t *testing.T) { // P11.6: nothing is asked of the disk, whatever it would answer
	s, d := opened(t, api.Plan{Fail: []int{1}})
	for range 2 {
		wantErrno(t, "Flush", s.Flush(), api.OK)
		wantErrno(t, "Compact", s.Compact(), api.OK)
		wantOps(t, "nothing logged", d, 0)
		wantCounts(t, "nothing logged", s, 0, 0)
	}
	must(t, d.Start(api.Plan{}), s.Write([]api.Put{put("a", "1")}), s.Flush(), d.Start(api.Plan{Fail: []int{1}}))
	for range 2 {
		wantErrno(t, "Flush", s.Flush(), api.OK)
		wantErrno(t, "Compact of one segment without a Gone", s.Compact(), api.OK)
		wantOps(t, "nothing logged since", d, 0)
		wantCounts(t, "nothing logged since", s, 1, 0)
	}
}

func TestFlush(t *testing.T) { // P11.6: the last put of each key of the log, the gone ones too, in the order of the keys
	s, d := opened(t, api.Plan{})
	must(t, s.Write([]api.Put{put("b", "1"), put("a", "1"), put("b", "2"), gone("z")}), s.Write([]api.Put{gone("a")}))
	must(t, s.Write([]api.Put{put("c", ""), put("z", "1"), gone("z"), put("\xff", "f"), put("\x00", "0")}))
	before := d.Ops()
	wantErrno(t, "Flush", s.Flush(), api.OK)
	wantOps(t, "Flush", d, before+3+4+2) // the segment's Create, Append, Sync; the manifest's and its Rename; the log's Truncate and Sync
	one := segmentOf(put("\x00", "0"), gone("a"), put("b", "2"), put("c", ""), gone("z"), put("\xff", "f"))
	wantFiles(t, "Flush", d, files{"MANIFEST": manifestOf(2, 1), "SEG-0000000001": one, "LOG": nil})
	want := has{"\x00": "0", "b": "2", "c": "", "\xff": "f"}
	wantHas(t, "Flush", s, want)
	wantCounts(t, "Flush", s, 1, 0)

	must(t, s.Write([]api.Put{put("a", "3"), gone("b")}))
	before = d.Ops()
	wantErrno(t, "Flush", s.Flush(), api.OK)
	wantOps(t, "Flush", d, before+9)
	wantFiles(t, "a second one", d, files{"MANIFEST": manifestOf(3, 1, 2), "SEG-0000000001": one,
		"SEG-0000000002": segmentOf(put("a", "3"), gone("b")), "LOG": nil})
	wantHas(t, "a second one", s, has{"\x00": "0", "a": "3", "c": "", "\xff": "f"})
	wantCounts(t, "a second one", s, 2, 0)
}

func TestFlushUnderTheNextNumber(t *testing.T) { // P11.6: whatever the manifest says it is
	for _, x := range []struct {
		next    uint64
		name    string
		numbers []uint64
	}{
		{1, "SEG-0000000001", nil},
		{2, "SEG-0000000002", nil},
		{10, "SEG-0000000010", []uint64{7, 3}},
		{1234567890, "SEG-1234567890", []uint64{7}},
		{9_999_999_999, "SEG-9999999999", nil},
	} {
		l := files{"MANIFEST": manifestOf(x.next, x.numbers...), "SEG-0000000003": segmentOf(put("c", "3")),
			"SEG-0000000007": segmentOf(put("g", "7")), "LOG": logOf(t, []api.Put{put("a", "1")})}
		d := laid(t, l, api.Plan{})
		s := wantOpened(t, x.name, d, has{"a": "1"}.with([]api.Put{put("g", "7"), put("c", "3")}[:len(x.numbers)]...), len(x.numbers), 1)
		must(t, s.Flush())
		files := lies(d)
		if want := manifestOf(x.next+1, append(x.numbers, x.next)...); string(files["MANIFEST"]) != string(want) {
			t.Errorf("%s: the manifest is %v, want %v", x.name, files["MANIFEST"], want)
		}
		if want := segmentOf(put("a", "1")); string(files[x.name]) != string(want) {
			t.Errorf("%s: the segment is %q, want %q", x.name, files[x.name], want)
		}
		wantCounts(t, x.name, s, len(x.numbers)+1, 0)
		wantGet(t, x.name, reopened(t, d), "a", "1")
	}
	for _, next := range []uint64{10_000_000_000, 1<<64 - 1} { // a number that is none of ten digits has no file
		l := files{"MANIFEST": manifestOf(next), "LOG": logOf(t, []api.Put{put("a", "1")})}
		d := laid(t, l, api.Plan{})
		s := wantOpened(t, "no number left", d, has{"a": "1"}, 0, 1)
		for range 2 {
			wantErrno(t, "no number left: Flush", s.Flush(), api.ErrLong)
			wantErrno(t, "no number left: Compact", s.Compact(), api.ErrLong)
		}
		wantOps(t, "no number left", d, 0)
		wantFiles(t, "no number left", d, l)
		wantCounts(t, "no number left", s, 0, 1)
		must(t, s.Write([]api.Put{put("b", "2")}))
		wantHas(t, "no number left, written", reopened(t, d), has{"a": "1", "b": "2"})
	}
}

func TestFlushWhereFilesAreInTheWay(t *testing.T) { // P11.6: they are removed ahead of the create
	for _, x := range []struct {
		what string
		l    []string
	}{
		{"a segment", []string{"SEG-0000000001"}},
		{"a draft", []string{"MANIFEST.new"}},
		{"both", []string{"SEG-0000000001", "MANIFEST.new"}},
	} {
		s, d := opened(t, api.Plan{})
		must(t, s.Write([]api.Put{put("a", "1")}))
		for _, name := range x.l {
			must(t, d.Create(name), d.Append(name, []byte("left by an error")))
		}
		before := d.Ops()
		wantErrno(t, x.what, s.Flush(), api.OK)
		wantOps(t, x.what, d, before+9+len(x.l))
		wantFiles(t, x.what, d, files{"MANIFEST": manifestOf(2, 1), "SEG-0000000001": segmentOf(put("a", "1")), "LOG": nil})
	}
}

func TestCompact(t *testing.T) { // P11.6
	s, d := opened(t, api.Plan{})
	must(t, s.Write([]api.Put{put("a", "1"), put("b", "1"), put("c", "1")}), s.Flush())
	must(t, s.Write([]api.Put{gone("a"), put("b", "2"), gone("none")}), s.Flush())
	must(t, s.Write([]api.Put{put("d", "3"), gone("c"), put("c", "3")}))
	before := d.Ops()
	wantErrno(t, "Compact", s.Compact(), api.OK)
	wantOps(t, "Compact", d, before+9+7+3) // Flush; the segment and the manifest; three old segments
	all := segmentOf(put("b", "2"), put("c", "3"), put("d", "3"))
	wantFiles(t, "Compact", d, files{"MANIFEST": manifestOf(5, 4), "SEG-0000000004": all, "LOG": nil})
	want := has{"b": "2", "c": "3", "d": "3"}
	wantHas(t, "Compact", s, want)
	wantCounts(t, "Compact", s, 1, 0)
	before = d.Ops()
	wantErrno(t, "Compact again", s.Compact(), api.OK)
	wantOps(t, "Compact again", d, before)

	must(t, s.Write([]api.Put{put("a", "5")}))
	before = d.Ops()
	wantErrno(t, "Compact of two", s.Compact(), api.OK)
	wantOps(t, "Compact of two", d, before+9+7+2)
	wantFiles(t, "Compact of two", d, files{"MANIFEST": manifestOf(7, 6), "LOG": nil,
		"SEG-0000000006": segmentOf(put("a", "5"), put("b", "2"), put("c", "3"), put("d", "3"))})
	wantHas(t, "Compact of two", s, want.with(put("a", "5")))
	wantHas(t, "opened again", reopened(t, d), want.with(put("a", "5")))
}

func TestCompactOfOneSegment(t *testing.T) { // P11.6: if it has a Gone
	one, two, a := "SEG-0000000001", "SEG-0000000002", segmentOf(put("a", "1"))
	for _, x := range []struct {
		what string
		puts []api.Put
		ops  int
		want files
	}{
		{"without a Gone", []api.Put{put("a", "1")}, 0, files{"MANIFEST": manifestOf(2, 1), one: a, "LOG": nil}},
		{"a Gone that was put again", []api.Put{gone("a"), put("a", "1")}, 0, files{"MANIFEST": manifestOf(2, 1), one: a, "LOG": nil}},
		{"with a Gone", []api.Put{put("a", "1"), gone("b")}, 7 + 1, files{"MANIFEST": manifestOf(3, 2), two: a, "LOG": nil}},
		{"a Gone alone", []api.Put{gone("b")}, 7 + 1, files{"MANIFEST": manifestOf(3, 2), two: segmentOf(), "LOG": nil}},
		{"put and gone", []api.Put{put("b", "1"), gone("b")}, 7 + 1, files{"MANIFEST": manifestOf(3, 2), two: segmentOf(), "LOG": nil}},
	} {
		for _, found := range []bool{false, true} {
			s, d := opened(t, api.Plan{})
			must(t, s.Write(x.puts), s.Flush())
			if found {
				s = reopened(t, d)
			}
			before := d.Ops()
			for range 2 { // the second has nothing to do
				wantErrno(t, x.what, s.Compact(), api.OK)
				wantOps(t, x.what, d, before+x.ops)
				wantFiles(t, x.what, d, x.want)
				wantHas(t, x.what, s, has{}.with(x.puts...))
				wantCounts(t, x.what, s, 1, 0)
			}
			wantHas(t, x.what+", opened again", reopened(t, d), has{}.with(x.puts...))
		}
	}
}

func TestCompactRemovesInOrder(t *testing.T) { // P11.6: an error there is told, the change stands, and Open removes what is left
	l := files{"MANIFEST": manifestOf(9, 8, 3, 5), "SEG-0000000003": segmentOf(put("c", "3")), "SEG-0000000005": segmentOf(put("e", "5")),
		"SEG-0000000008": segmentOf(put("e", "8"), put("h", "8")), "LOG": nil}
	want := has{"c": "3", "e": "5", "h": "8"}
	done := files{"MANIFEST": manifestOf(10, 9), "SEG-0000000009": segmentOf(put("c", "3"), put("e", "5"), put("h", "8")), "LOG": nil}
	old := []string{"SEG-0000000008", "SEG-0000000003", "SEG-0000000005"}
	for i, name := range old {
		d := laid(t, l, api.Plan{Fail: []int{7 + i + 1}})
		s := wantOpened(t, name, d, want, 3, 0)
		left := maps.Clone(done)
		for _, name := range old[i:] {
			left[name] = l[name]
		}
		for _, e := range []api.Errno{api.ErrIO, api.OK} { // the second has nothing to do
			wantErrno(t, name, s.Compact(), e)
			wantOps(t, name, d, 7+i+1)
			wantFiles(t, name, d, left)
			wantHas(t, name, s, want)
			wantCounts(t, name, s, 1, 0)
		}
		must(t, s.Write([]api.Put{put("a", "1")}), s.Flush())
		wantHas(t, name+", opened again", reopened(t, d), want.with(put("a", "1")))
		wantFiles(t, name+", opened again", d, files{"MANIFEST": manifestOf(11, 9, 10), "LOG": nil,
			"SEG-0000000009": done["SEG-0000000009"], "SEG-0000000010": segmentOf(put("a", "1"))})
	}
	d := laid(t, l, api.Plan{})
	s := wantOpened(t, "one that somebody took", d, want, 3, 0)
	must(t, d.Remove("SEG-0000000003"))
	wantErrno(t, "one that somebody took", s.Compact(), api.ErrNoFile)
	wantHas(t, "one that somebody took", s, want)
	wantHas(t, "one that somebody took, opened again", reopened(t, d), want)
}

func TestFlushOfMuch(t *testing.T) { // P11.6: many segments, many keys
	s, d := opened(t, api.Plan{})
	want := has{}
	seed := source(5)
	for i := range 60 {
		var l []api.Put
		for range 1 + seed.below(40) {
			key := seed.text(1 + seed.below(5))
			l = append(l, put(key, seed.text(seed.below(9))))
			if seed.below(3) == 0 {
				l = append(l, gone(seed.text(1+seed.below(3))))
			}
		}
		must(t, s.Write(l), s.Flush())
		want = want.with(l...)
		wantHas(t, "flushed", s, want)
		wantCounts(t, "flushed", s, i+1, 0)
	}
	wantHas(t, "opened again", reopened(t, d), want)
	s = reopened(t, d)
	must(t, s.Compact())
	wantHas(t, "compacted", s, want)
	wantCounts(t, "compacted", s, 1, 0)
	if len(d.Files()) != 3 {
		t.Errorf("%d files are left", len(d.Files()))
	}
	wantHas(t, "compacted and opened again", reopened(t, d), want)
}
