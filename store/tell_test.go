package store_test

import (
	"fmt"
	"slices"
	"strings"
	"testing"

	"cairn/api"
	"cairn/store"
)

// layered is a store whose keys lie in two segments and in the log, some of them in several, and what it has.
func layered(t *testing.T) (*store.Store, has) {
	t.Helper()
	s, _ := opened(t, api.Plan{})
	first := []api.Put{put("a", "1"), put("b", "1"), put("d", "1"), put("\xff", "1"), put("ab", "1"), put("e", "1")}
	second := []api.Put{put("c", "2"), gone("b"), put("a\x00", ""), gone("e")}
	third := []api.Put{put("b\x00", "3"), put("a", "3"), gone("d"), put("\x00", "3"), put("e", "3"), gone("z")}
	must(t, s.Write(first), s.Flush(), s.Write(second), s.Flush(), s.Write(third[:3]), s.Write(third[3:]))
	return s, has{}.with(slices.Concat(first, second, third)...)
}

func TestTold(t *testing.T) { // P11.7
	s, want := layered(t)
	wantCounts(t, "layered", s, 2, 2)
	wantHas(t, "layered", s, want)
	wantText(t, "in the order of the keys' bytes", tell(s.Each("")),
		`"\x00": "3", "a": "3", "a\x00": "", "ab": "1", "b\x00": "3", "c": "2", "e": "3", "\xff": "1"`)
	must(t, s.Flush())
	wantCounts(t, "flushed", s, 3, 0)
	wantHas(t, "flushed", s, want)
	must(t, s.Compact())
	wantCounts(t, "compacted", s, 1, 0)
	wantHas(t, "compacted", s, want)
}

func TestEachFrom(t *testing.T) { // P11.7: a key that is there, one that isn't, one behind all
	nothing := func(*store.Store) api.Errno { return api.OK }
	for _, work := range []func(*store.Store) api.Errno{nothing, (*store.Store).Flush, (*store.Store).Compact} {
		s, want := layered(t)
		must(t, work(s))
		for _, from := range []string{"", "\x00", "\x00\x00", "a", "a\x00", "a\x00\x00", "ab", "aa", "b", "b\x00", "c", "d", "e", "f", "z", "\xfe",
			"\xff", "\xff\x00", "\xff\xff", strings.Repeat("b", api.MaxKey+1), strings.Repeat("\xff", 1000)} {
			part := has{}
			for key, value := range want {
				if key >= from {
					part[key] = value
				}
			}
			wantText(t, fmt.Sprintf("from %q", from), tell(s.Each(from)), part.text())
		}
	}
}

func TestEachIsLeftAndGoneOverAgain(t *testing.T) { // P11.7
	s, want := layered(t)
	each := s.Each("")
	for n := range len(want) + 1 {
		var keys []string
		for key := range each {
			if len(keys) == n {
				break
			}
			keys = append(keys, key)
		}
		if len(keys) != n || !slices.IsSorted(keys) {
			t.Errorf("left behind %d: %q", n, keys)
		}
		wantText(t, "gone over again", tell(each), want.text())
	}
	part := s.Each("b")
	for range part {
		wantText(t, "within itself", tell(part), `"b\x00": "3", "c": "2", "e": "3", "\xff": "1"`)
	}
}

func TestEachTellsWhatThereIsWhenTheRangingBegins(t *testing.T) { // P11.7
	s, want := layered(t)
	each := s.Each("")
	must(t, s.Write([]api.Put{put("new", "4"), gone("a")}))
	want = want.with(put("new", "4"), gone("a"))
	wantText(t, "written between the call and the ranging", tell(each), want.text())

	for at := range len(want) {
		s, want := layered(t)
		each := s.Each("")
		var parts []string
		for key, value := range each {
			if len(parts) == at {
				must(t, s.Write([]api.Put{put(key, "other"), gone("c"), put("e", "other"), put("aaa", "new"), put("\xff\xff", "new")}))
				must(t, s.Flush(), s.Write([]api.Put{gone("\xff"), put("b", "back")}), s.Compact(), s.Write([]api.Put{gone("\x00")}))
			}
			parts = append(parts, short(key)+": "+short(string(value)))
		}
		wantText(t, fmt.Sprint("worked on at ", at), strings.Join(parts, ", "), want.text())
		if told := tell(each); told == want.text() || !strings.Contains(told, `"aaa": "new"`) {
			t.Errorf("gone over again: %s", told)
		}
	}
}

func TestLen(t *testing.T) { // P11.7: keys, not puts
	s, d := opened(t, api.Plan{})
	for _, x := range []struct {
		l    []api.Put
		want int
	}{
		{[]api.Put{gone("a")}, 0},
		{[]api.Put{put("a", "1"), put("a", "2"), put("a", "")}, 1},
		{[]api.Put{put("b", "1"), gone("b"), put("b", "2"), put("c", "1")}, 3},
		{[]api.Put{gone("a"), gone("a"), put("d", "1"), gone("d")}, 2},
		{[]api.Put{put("a", "1"), gone("b"), gone("c"), gone("a"), gone("x")}, 0},
		{[]api.Put{put("a", "1"), put("b", "")}, 2},
	} {
		must(t, s.Write(x.l))
		for _, work := range []func() api.Errno{s.Flush, s.Compact} {
			if s.Len() != x.want {
				t.Errorf("%v: Len %d, want %d", x.l, s.Len(), x.want)
			}
			must(t, work())
		}
		if n := reopened(t, d.Clone()).Len(); n != x.want {
			t.Errorf("%v, opened again: Len %d, want %d", x.l, n, x.want)
		}
	}
}

func TestPendingAndSegments(t *testing.T) { // P11.7
	s, d := opened(t, api.Plan{})
	segments := 0
	for i := range 5 {
		for j := range i + 1 {
			wantCounts(t, "written", s, segments, j)
			must(t, s.Write([]api.Put{put("a", "1"), put("b", "1")}), s.Write(nil))
			wantErrno(t, "no Write", s.Write([]api.Put{put("", "")}), api.ErrKey)
			again, e := store.Open(d)
			must(t, e)
			wantCounts(t, "opened again", again, segments, j+1)
		}
		must(t, s.Flush())
		segments++
		wantCounts(t, "flushed", s, segments, 0)
	}
	must(t, s.Compact())
	wantCounts(t, "compacted", s, 1, 0)
	wantCounts(t, "opened again", reopened(t, d), 1, 0)
}
