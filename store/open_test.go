package store_test

import (
	"fmt"
	"maps"
	"slices"
	"strings"
	"testing"

	"cairn/api"
	"cairn/disk"
	"cairn/store"
	"cairn/wal"
)

// wantRefused holds Open against an error, beside which there is no store.
func wantRefused(t *testing.T, what string, d *disk.Disk, want api.Errno) {
	t.Helper()
	s, e := store.Open(d)
	wantErrno(t, what, e, want)
	if s != nil {
		t.Errorf("%s: a store beside the error", what)
	}
}

// wantOpened holds Open against what the store must have.
func wantOpened(t *testing.T, what string, d *disk.Disk, want has, segments, pending int) *store.Store {
	t.Helper()
	s, e := store.Open(d)
	wantErrno(t, what, e, api.OK)
	wantHas(t, what, s, want)
	wantCounts(t, what, s, segments, pending)
	return s
}

func TestOpenOnAnEmptyDisk(t *testing.T) { // P11.3
	d := disk.New(api.Plan{})
	for range 3 {
		wantOpened(t, "new", d, nil, 0, 0)
		wantFiles(t, "new", d, files{"MANIFEST": manifestOf(1), "LOG": nil})
		wantOps(t, "new", d, 5) // Create, Append, Sync, Rename; and the log's Create
	}
}

func TestOpenWhereThereIsNoManifest(t *testing.T) { // P11.3: whatever else is there
	for _, x := range []struct {
		what string
		l    files
		ops  int
		want files
	}{
		{"a draft that a death left", files{"MANIFEST.new": []byte("abc")}, 6, nil},
		{"a whole draft", files{"MANIFEST.new": manifestOf(2, 1), "SEG-0000000001": segmentOf(put("a", "1"))}, 7, nil},
		{"segments", files{"SEG-0000000001": segmentOf(put("a", "1")), "SEG-0000000002": nil}, 7, nil},
		{"files of others", files{"A": []byte("a"), "MANIFEST.old": []byte("m"), "SEG": []byte("s"), "seg-1": nil, "XSEG-1": nil}, 5,
			files{"A": []byte("a"), "MANIFEST.old": []byte("m"), "SEG": []byte("s"), "seg-1": nil, "XSEG-1": nil}},
	} {
		d := laid(t, x.l, api.Plan{})
		wantOpened(t, x.what, d, nil, 0, 0)
		wantOps(t, x.what, d, x.ops)
		want := files{"MANIFEST": manifestOf(1), "LOG": nil}
		maps.Copy(want, x.want)
		wantFiles(t, x.what, d, want)
	}
	log := logOf(t, []api.Put{put("a", "1"), put("b", "2")}, []api.Put{gone("a")})
	d := laid(t, files{"LOG": log}, api.Plan{})
	wantOpened(t, "a log", d, has{"b": "2"}, 0, 2)
	wantFiles(t, "a log", d, files{"MANIFEST": manifestOf(1), "LOG": log})
}

func TestOpenReads(t *testing.T) { // P11.3: the oldest segment first, then the log; nothing is done to the disk
	one := segmentOf(put("a", "1"), put("b", "1"), put("c", "1"), put("d", "1"))
	two := segmentOf(gone("b"), put("c", "2"), put("e", "2"))
	log := logOf(t, []api.Put{put("a", "3"), gone("d"), put("f", "")}, []api.Put{put("d", "4"), gone("e")})
	for _, x := range []struct {
		what     string
		manifest []byte
		want     has
	}{
		{"one behind the other", manifestOf(8, 1, 7), has{"a": "3", "c": "2", "d": "4", "f": ""}},
		{"the greater number is the older one", manifestOf(8, 7, 1), has{"a": "3", "b": "1", "c": "1", "d": "4", "f": ""}},
		{"the greatest next number", manifestOf(1<<64-1, 1, 7), has{"a": "3", "c": "2", "d": "4", "f": ""}},
	} {
		l := files{"MANIFEST": x.manifest, "SEG-0000000001": one, "SEG-0000000007": two, "LOG": log, "other": []byte("o")}
		d := laid(t, l, api.Plan{})
		for range 2 {
			wantOpened(t, x.what, d, x.want, 2, 2)
			wantFiles(t, x.what, d, l)
			wantOps(t, x.what, d, 0)
		}
	}
	d := laid(t, files{"MANIFEST": manifestOf(10_000_000_000, 9_999_999_999), "SEG-9999999999": one}, api.Plan{})
	wantOpened(t, "ten digits", d, has{"a": "1", "b": "1", "c": "1", "d": "1"}, 1, 0)
	wantOps(t, "ten digits", d, 1)
	d = laid(t, files{"MANIFEST": manifestOf(3, 1, 2), "SEG-0000000001": segmentOf(), "SEG-0000000002": segmentOf(gone("a"))}, api.Plan{})
	wantOpened(t, "segments that have nothing", d, nil, 2, 0)
}

func TestOpenOfWhatIsNoManifest(t *testing.T) { // P11.3: ErrManifest, and nothing is done
	good := manifestOf(4, 1, 3)
	bad := files{
		"nothing":                      {},
		"a digest alone":               sealed(nil),
		"three bytes":                  []byte("abc"),
		"a byte more":                  append(slices.Clone(good), 0),
		"a number of seven bytes":      sealed(append(least(1, 7), least(4, 8)...)),
		"a number of nine bytes":       sealed(append(least(1, 8), least(4, 9)...)),
		"four bytes":                   sealed(least(4, 4)),
		"no digest":                    good[:len(good)-8],
		"noughts":                      make([]byte, 32),
		"a number twice":               manifestOf(4, 1, 3, 1),
		"a number twice on end":        manifestOf(4, 1, 1),
		"the number 0":                 manifestOf(4, 0, 1),
		"the number 0 last":            manifestOf(4, 1, 0),
		"the next one's":               manifestOf(3, 1, 3),
		"above the next one's":         manifestOf(3, 4, 1),
		"the next one's, 1":            manifestOf(1, 1),
		"the next one is 0":            manifestOf(0),
		"the next one is 0, and 1":     manifestOf(0, 1),
		"far above the next one's":     manifestOf(4, 1<<63+1),
		"the digest of the numbers":    append(slices.Clone(good[:24]), sealed(good[:16])[16:]...),
		"the digest the other way":     append(slices.Clone(good[:24]), reversed(good[24:])...),
		"the numbers, highest ahead":   sealed(slices.Concat(reversed(least(1, 8)), reversed(least(4, 8)))),
		"a digest of the digest, too":  sealed(good),
		"eleven digits":                manifestOf(1<<40, 1<<39),
		"the greatest number":          manifestOf(1<<64-1, 1<<64-2),
		"two that are not there":       manifestOf(10, 8, 9),
		"one that is not there, last":  manifestOf(10, 1, 3, 9),
		"one that is not there, first": manifestOf(10, 2, 3),
	}
	for i := range good {
		bad[fmt.Sprint("cut at ", i)] = good[:i]
		other := slices.Clone(good)
		other[i] ^= 1
		bad[fmt.Sprint("another byte at ", i)] = other
	}
	for what, manifest := range bad {
		l := files{"MANIFEST": manifest, "SEG-0000000001": segmentOf(put("a", "1")), "SEG-0000000003": segmentOf(put("b", "1")),
			"SEG-0000000005": nil, "SEG-549755813888": segmentOf(), "SEG-18446744073709551614": segmentOf(), "MANIFEST.new": good}
		d := laid(t, l, api.Plan{})
		for range 2 {
			wantRefused(t, what, d, api.ErrManifest)
			wantFiles(t, what, d, l)
			wantOps(t, what, d, 0)
		}
	}
}

// reversed are bytes the other way.
func reversed(b []byte) []byte {
	c := slices.Clone(b)
	slices.Reverse(c)
	return c
}

// badRecords are bytes that are no put's record.
func badRecords() files {
	return files{
		"no bytes":                      nil,
		"one byte":                      {0},
		"a key of no bytes":             {0, 0},
		"a gone key of no bytes":        {1, 0},
		"a key of no bytes, a value":    {0, 0, 'a'},
		"the kind 2":                    {2, 1, 'a'},
		"the kind 255":                  {255, 1, 'a', '1'},
		"a key that ends too early":     {0, 2, 'a'},
		"a key of which there is none":  {0, 1},
		"a key of MaxKey + 1":           recordOf(put(strings.Repeat("k", api.MaxKey+1), "1")),
		"a gone key of MaxKey + 1":      recordOf(gone(strings.Repeat("k", api.MaxKey+1))),
		"a key of 255":                  recordOf(put(strings.Repeat("k", 255), "")),
		"a key of which 254 of 255 are": recordOf(put(strings.Repeat("k", 255), ""))[:256],
		"a gone one with a value":       {1, 1, 'a', 0},
		"a value of MaxValue + 1":       recordOf(put("a", strings.Repeat("v", api.MaxValue+1))),
	}
}

// goodRecords are puts at the edges.
func goodRecords() []api.Put {
	long := strings.Repeat("k", api.MaxKey)
	return []api.Put{put("\x00", ""), put("a", "1"), gone("b"), put("c", "\x00"), put("d", strings.Repeat("v", api.MaxValue)),
		put(long, "long"), gone(long[1:] + "l"), put("\xff", "\xff")}
}

func TestOpenOfWhatIsNoSegment(t *testing.T) { // P11.3
	a, b := lengthAhead(recordOf(put("a", "1"))), lengthAhead(recordOf(put("b", "2")))
	good := segmentOf(put("a", "1"), put("b", "2"))
	bad := files{
		"nothing":                 {},
		"seven bytes":             sealed(nil)[:7],
		"noughts":                 make([]byte, 8),
		"keys out of order":       segmentOf(put("b", "2"), put("a", "1")),
		"a key twice":             segmentOf(put("a", "1"), put("a", "1")),
		"a key and gone":          segmentOf(put("a", "1"), gone("a")),
		"a longer key first":      segmentOf(put("aa", "1"), put("a", "1")),
		"the third out of order":  segmentOf(put("a", "1"), put("c", "1"), put("b", "1")),
		"bytes taken as signed":   segmentOf(put("\x80", "1"), put("\x7f", "1")),
		"a byte behind":           sealed(append(slices.Clone(a), 0)),
		"three bytes behind":      sealed(slices.Concat(a, b, []byte{0, 0, 0})),
		"a length of 0 behind":    sealed(slices.Concat(a, make([]byte, 4))),
		"a length too great":      sealed(append(least(5, 4), recordOf(put("a", "1"))...)),
		"a length too small":      sealed(append(least(3, 4), recordOf(put("a", "1"))...)),
		"the greatest length":     sealed(append(least(1<<32-1, 4), recordOf(put("a", "1"))...)),
		"a length, highest ahead": sealed(append(reversed(least(4, 4)), recordOf(put("a", "1"))...)),
		"no digest":               good[:len(good)-8],
		"a digest of the digest":  sealed(good),
	}
	for i := range good {
		bad[fmt.Sprint("cut at ", i)] = good[:i]
		other := slices.Clone(good)
		other[i] ^= 0x80
		bad[fmt.Sprint("another byte at ", i)] = other
	}
	for what, record := range badRecords() {
		bad[what] = sealed(lengthAhead(record))
		bad[what+", behind a good one"] = sealed(slices.Concat(lengthAhead(recordOf(put("\x00", "1"))), lengthAhead(record)))
		bad[what+", ahead of a good one"] = sealed(slices.Concat(lengthAhead(record), lengthAhead(recordOf(put("\xff", "1")))))
	}
	for what, segment := range bad {
		for _, numbers := range [][]uint64{{2}, {1, 2}, {2, 1}} {
			l := files{"MANIFEST": manifestOf(3, numbers...), "SEG-0000000001": good, "SEG-0000000002": segment, "SEG-0000000009": good,
				"MANIFEST.new": nil, "LOG": []byte("torn")}
			d := laid(t, l, api.Plan{})
			wantRefused(t, what, d, api.ErrManifest)
			wantOps(t, what, d, 0)
			if len(segment) < 1000 {
				wantFiles(t, what, d, l)
			}
		}
	}
}

func TestOpenOfSegmentsAtTheEdges(t *testing.T) { // P11.3
	puts := goodRecords()
	slices.SortFunc(puts, func(p, q api.Put) int { return strings.Compare(p.Key, q.Key) })
	d := laid(t, files{"MANIFEST": manifestOf(2, 1), "SEG-0000000001": segmentOf(puts...)}, api.Plan{})
	wantOpened(t, "edges", d, has{}.with(puts...), 1, 0)
}

func TestOpenByTheLog(t *testing.T) { // P11.3
	d := laid(t, files{"MANIFEST": manifestOf(1), "LOG": logOf(t, goodRecords())}, api.Plan{})
	wantOpened(t, "edges", d, has{}.with(goodRecords()...), 0, 1)
	wantOps(t, "edges", d, 0)
	for what, record := range badRecords() {
		for _, batch := range [][][]byte{{record}, {recordOf(put("a", "1")), record}, {record, recordOf(gone("a"))}} {
			first, e := wal.Encode(0, [][]byte{recordOf(put("b", "2"))})
			must(t, e)
			second, e := wal.Encode(1, batch)
			must(t, e)
			l := files{"MANIFEST": manifestOf(1), "LOG": append(first, second...)}
			d := laid(t, l, api.Plan{})
			wantRefused(t, what, d, api.ErrManifest)
			wantOps(t, what, d, 0)
			l["LOG"] = l["LOG"][:len(l["LOG"])-1]
			wantOpened(t, what+", torn", laid(t, l, api.Plan{}), has{"b": "2"}, 0, 1)
		}
	}
	for _, tail := range []string{"\x00", "torn", strings.Repeat("\xff", 100)} {
		log := logOf(t, []api.Put{put("b", "2")})
		d := laid(t, files{"MANIFEST": manifestOf(1), "LOG": append(slices.Clone(log), tail...)}, api.Plan{})
		wantOpened(t, "a tail", d, has{"b": "2"}, 0, 1)
		wantFiles(t, "a tail", d, files{"MANIFEST": manifestOf(1), "LOG": log})
		wantOps(t, "a tail", d, 2)
	}
}

func TestOpenRemovesWhatIsLeft(t *testing.T) { // P11.3
	one := segmentOf(put("a", "1"))
	stay := files{"MANIFEST": manifestOf(5, 2, 1), "SEG-0000000001": one, "SEG-0000000002": segmentOf(put("a", "2"), put("b", "2")),
		"LOG": nil, "SEG": one, "seg-0000000003": one, "XSEG-1": one, "LOG.new": one, "MANIFEST.new2": one, "MANIFEST.ne": one}
	left := files{"SEG-": one, "SEG-0000000000": one, "SEG-0000000003": one, "SEG-0000000004": nil, "SEG-1": one, "SEG-00000000001": one,
		"SEG-000000000": one, "SEG-~": one, "SEG-LOG": one, "MANIFEST.new": manifestOf(6, 2, 1, 3)}
	all := maps.Clone(stay)
	maps.Copy(all, left)
	d := laid(t, all, api.Plan{})
	wantOpened(t, "what is left", d, has{"a": "1", "b": "2"}, 2, 0)
	wantFiles(t, "what is left", d, stay)
	wantOps(t, "what is left", d, len(left))

	d = laid(t, all, api.Plan{Fail: []int{len(left)}})
	wantRefused(t, "the last Remove", d, api.ErrIO)
	wantOpened(t, "the last Remove, again", d, has{"a": "1", "b": "2"}, 2, 0)
	wantFiles(t, "the last Remove, again", d, stay)

	delete(all, "LOG")
	d = laid(t, all, api.Plan{Fail: []int{len(left) + 1}})
	wantRefused(t, "the log is opened last", d, api.ErrIO)
	delete(stay, "LOG")
	wantFiles(t, "the log is opened last", d, stay)
}

func TestOpenOnADeadDisk(t *testing.T) { // P11.3
	dead := laid(t, files{"MANIFEST": manifestOf(2, 1), "SEG-0000000001": segmentOf(put("a", "1"))}, api.Plan{Crash: 1})
	wantErrno(t, "the crash", dead.Create("x"), api.ErrDead)
	for what, d := range map[string]*disk.Disk{"nil": nil, "one that New did not make": {}, "a dead one": dead} {
		wantRefused(t, what, d, api.ErrDead)
	}
	wantHas(t, "started again", reopened(t, dead), has{"a": "1"})
}

func TestOpenOnAFullDisk(t *testing.T) { // P11.3: Create's ErrLong
	l := files{}
	for i := range api.MaxFiles - 1 {
		l[fmt.Sprint("other", i)] = nil
	}
	l["MANIFEST"] = manifestOf(1)
	wantRefused(t, "no log, MaxFiles files", laid(t, l, api.Plan{}), api.ErrLong)
	l["LOG"] = l["MANIFEST"]
	delete(l, "MANIFEST")
	wantRefused(t, "no manifest, MaxFiles files", laid(t, l, api.Plan{}), api.ErrLong)
	delete(l, "other0")
	wantOpened(t, "room for the manifest", laid(t, l, api.Plan{}), nil, 0, 0)
	wantRefused(t, "no room", disk.New(api.Plan{Room: 15}), api.ErrFull)
	wantOpened(t, "room", disk.New(api.Plan{Room: 16}), nil, 0, 0)
}

func TestOpenOnALivingDisk(t *testing.T) { // P11.3, P11.8: what another store's calls left unsynced
	s, d := opened(t, api.Plan{Fail: []int{6}})
	must(t, s.Write([]api.Put{put("a", "1")}), s.Write([]api.Put{put("a", "2")}))
	wantErrno(t, "at the Sync", s.Write([]api.Put{put("a", "3"), put("b", "3")}), api.ErrIO)
	again := wantOpened(t, "opened again", d, has{"a": "3", "b": "3"}, 0, 3)
	wantOps(t, "opened again", d, 7)
	must(t, again.Flush())
	wantHas(t, "flushed, and died", reopened(t, d), has{"a": "3", "b": "3"})
}
