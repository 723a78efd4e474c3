package store_test

import (
	"fmt"
	"strings"
	"testing"

	"cairn/api"
	"cairn/disk"
)

func TestWriteLogs(t *testing.T) { // P11.4, P11.5: one batch, appended and synced
	s, d := opened(t, api.Plan{})
	first := []api.Put{put("b", "1"), put("a", ""), gone("c"), put("b", "2"), put("\x00", "\x00")}
	wantErrno(t, "Write", s.Write(first), api.OK)
	wantOps(t, "Write", d, 2)
	wantFiles(t, "Write", d, files{"MANIFEST": manifestOf(1), "LOG": logOf(t, first)})
	wantHas(t, "Write", s, has{"a": "", "b": "2", "\x00": "\x00"})
	wantCounts(t, "Write", s, 0, 1)
	second := []api.Put{gone("b")}
	wantErrno(t, "Write", s.Write(second), api.OK)
	wantOps(t, "Write", d, 4)
	wantFiles(t, "Write", d, files{"MANIFEST": manifestOf(1), "LOG": logOf(t, first, second)})
	wantHas(t, "Write", s, has{"a": "", "\x00": "\x00"})
	wantCounts(t, "Write", s, 0, 2)
}

func TestWriteOfNoPuts(t *testing.T) { // P11.5: nothing happens, whatever the disk would answer
	s, d := opened(t, api.Plan{Fail: []int{1, 2}})
	for _, l := range [][]api.Put{nil, {}, make([]api.Put, 3)[:0]} {
		wantErrno(t, "no puts", s.Write(l), api.OK)
	}
	wantOps(t, "no puts", d, 0)
	wantCounts(t, "no puts", s, 0, 0)
	wantErrno(t, "it fails", s.Write([]api.Put{put("a", "1")}), api.ErrIO)
	wantErrno(t, "no puts behind an error", s.Write(nil), api.OK)
	wantOps(t, "no puts behind an error", d, 1)
}

func TestGet(t *testing.T) { // P11.4: in the log and in segments, newer ones over older ones
	s, _ := opened(t, api.Plan{})
	wantNone(t, "empty", s, "a")
	must(t, s.Write([]api.Put{put("a", "1"), put("b", "1"), put("c", ""), put("d", "1")}), s.Flush())
	must(t, s.Write([]api.Put{put("a", "2"), gone("b"), gone("none")}), s.Flush())
	must(t, s.Write([]api.Put{gone("a"), put("b", "3"), put("e", "3")}))
	for key, value := range map[string]string{"b": "3", "c": "", "d": "1", "e": "3"} {
		wantGet(t, "three deep", s, key, value)
	}
	for _, key := range []string{"a", "none", "", "f", "bb", "B", "\x00", "\xff", strings.Repeat("k", api.MaxKey+1), strings.Repeat("b", 1<<20)} {
		wantNone(t, "three deep", s, key)
	}
}

// wantWritten holds a Write against an error; with one nothing may have changed, and nothing been asked of the disk.
func wantWritten(t *testing.T, what string, l []api.Put, want api.Errno) {
	t.Helper()
	s, d := opened(t, api.Plan{})
	before := has{"old": "o"}
	must(t, s.Write([]api.Put{put("old", "o")}))
	wantErrno(t, what, s.Write(l), want)
	if want != api.OK {
		wantOps(t, what, d, 2)
		wantHas(t, what, s, before)
		wantCounts(t, what, s, 0, 1)
		wantHas(t, what+", opened again", reopened(t, d), before)
		return
	}
	wantOps(t, what, d, 4)
	after := before.with(l...)
	wantCounts(t, what, s, 0, 2)
	wantHas(t, what, s, after)
	again := reopened(t, d)
	wantHas(t, what+", opened again", again, after)
	must(t, again.Flush())
	wantHas(t, what+", flushed and opened again", reopened(t, d), after)
}

func TestWriteAtTheEdges(t *testing.T) { // P11.5: keys and values
	key := strings.Repeat("k", api.MaxKey)
	value := strings.Repeat("v", api.MaxValue)
	for _, x := range []struct {
		what string
		p    api.Put
		want api.Errno
	}{
		{"a key of no bytes", put("", "1"), api.ErrKey},
		{"a gone key of no bytes", gone(""), api.ErrKey},
		{"a key of one byte", put("k", "1"), api.OK},
		{"a key of MaxKey", put(key, "1"), api.OK},
		{"a gone key of MaxKey", gone(key), api.OK},
		{"a key of MaxKey + 1", put(key+"k", "1"), api.ErrKey},
		{"a gone key of MaxKey + 1", gone(key + "k"), api.ErrKey},
		{"a key of 256 + 1", put(strings.Repeat("k", 257), "1"), api.ErrKey},
		{"a value of no bytes", put("k", ""), api.OK},
		{"a value of nil", api.Put{Key: "k"}, api.OK},
		{"a value of MaxValue", put(key, value), api.OK},
		{"a value of MaxValue + 1", put("k", value+"v"), api.ErrKey},
		{"a gone one with a value", api.Put{Key: "k", Value: []byte("v"), Gone: true}, api.ErrKey},
		{"a gone one with an empty value", api.Put{Key: "k", Value: []byte{}, Gone: true}, api.OK},
		{"all that is wrong", api.Put{Key: "", Value: []byte(value + "v"), Gone: true}, api.ErrKey},
	} {
		wantWritten(t, x.what, []api.Put{x.p}, x.want)
		wantWritten(t, x.what+", first", []api.Put{x.p, put("a", "1"), gone("old")}, x.want)
		wantWritten(t, x.what+", last", []api.Put{put("a", "1"), gone("old"), x.p}, x.want)
	}
}

// many are so many puts, one key several times among them.
func many(n int) []api.Put {
	var l []api.Put
	for i := range n {
		l = append(l, put(fmt.Sprint(i%3000), fmt.Sprint("v", i)))
	}
	return l
}

// bytesOf are puts whose records come to so many bytes.
func bytesOf(t *testing.T, long int) []api.Put {
	t.Helper()
	var l []api.Put
	value := strings.Repeat("v", api.MaxValue)
	for left := long; left > 0; {
		key := fmt.Sprintf("%03d", len(l))
		n := min(api.MaxValue, left-5)
		if rest := left - 5 - n; rest > 0 && rest < 5 {
			n -= 5 // so that the last one has room for its head
		}
		l = append(l, put(key, value[:n]))
		left -= 5 + n
	}
	sum := 0
	for _, p := range l {
		sum += len(recordOf(p))
	}
	if sum != long {
		t.Fatalf("the records come to %d, not %d", sum, long)
	}
	return l
}

func TestWriteOfMuch(t *testing.T) { // P11.5: MaxBatch puts, and records of 2^24 - 2^16 bytes; ErrKey comes first
	wantWritten(t, "MaxBatch puts", many(api.MaxBatch), api.OK)
	wantWritten(t, "MaxBatch + 1 puts", many(api.MaxBatch+1), api.ErrLong)
	wantWritten(t, "MaxBatch + 1 puts, the last one's key none", append(many(api.MaxBatch), put("", "")), api.ErrKey)
	const most = 1<<24 - 1<<16
	wantWritten(t, "records of the most bytes", bytesOf(t, most), api.OK)
	wantWritten(t, "records of one more byte", bytesOf(t, most+1), api.ErrLong)
	wantWritten(t, "records of one more byte, and a gone one with a value", append(bytesOf(t, most+1),
		api.Put{Key: "k", Value: []byte("v"), Gone: true}), api.ErrKey)

	var l []api.Put // MaxBatch puts whose records come to the most bytes: the longest batch that there may be
	for i := range api.MaxBatch {
		l = append(l, put(fmt.Sprintf("%04d", i), strings.Repeat("v", most/api.MaxBatch-6)))
	}
	wantWritten(t, "the longest batch", l, api.OK)
	l[17].Value = append(l[17].Value, 'v')
	wantWritten(t, "one more byte", l, api.ErrLong)
}

func TestWriteWhereTheLogIsFull(t *testing.T) { // P11.2, P11.5: the disk's ErrLong
	s, d := opened(t, api.Plan{})
	must(t, s.Write([]api.Put{put("a", "1")}), d.Truncate("LOG", api.MaxFile))
	wantErrno(t, "MaxFile bytes", s.Write([]api.Put{put("b", "2")}), api.ErrLong)
	wantHas(t, "MaxFile bytes", s, has{"a": "1"})
	wantCounts(t, "MaxFile bytes", s, 0, 1)
	must(t, s.Write([]api.Put{put("c", "3")}))
	wantHas(t, "as if it had not been", s, has{"a": "1", "c": "3"})
	wantHas(t, "opened again", reopened(t, d), has{"a": "1", "c": "3"})
}

func TestWriteOnADeadDisk(t *testing.T) { // P11.2, P11.5
	s, d := opened(t, api.Plan{Crash: 4})
	must(t, s.Write([]api.Put{put("a", "1")}))
	wantErrno(t, "the crash", s.Write([]api.Put{put("a", "2"), put("b", "2")}), api.ErrDead)
	for range 2 {
		wantHas(t, "dead", s, has{"a": "1"})
		wantErrno(t, "dead", s.Write([]api.Put{put("c", "3")}), api.ErrDead)
		wantErrno(t, "dead: Flush", s.Flush(), api.ErrDead)
		wantErrno(t, "dead: Compact", s.Compact(), api.ErrDead)
		wantErrno(t, "dead, no key", s.Write([]api.Put{put("", "")}), api.ErrKey)
	}
	must(t, d.Start(api.Plan{}), s.Write([]api.Put{put("c", "3")}))
	wantHas(t, "started again", s, has{"a": "1", "c": "3"})
	wantHas(t, "opened again", reopened(t, d), has{"a": "1", "c": "3"})
}

func TestWriteTwoStoresOnTwoDisks(t *testing.T) { // P3: a store hangs on its own disk alone
	s, _ := opened(t, api.Plan{})
	u, _ := opened(t, api.Plan{})
	must(t, s.Write([]api.Put{put("a", "1")}), u.Write([]api.Put{put("a", "2")}), s.Flush())
	wantHas(t, "the one", s, has{"a": "1"})
	wantHas(t, "the other", u, has{"a": "2"})
	wantCounts(t, "the other", u, 0, 1)
	wantHas(t, "a third", reopened(t, disk.New(api.Plan{})), nil)
}
