package store_test

import (
	"slices"
	"testing"

	"cairn/api"
)

// spoil writes over all that a list has, and what lies behind its length.
func spoil[T any](l []T, with T) {
	l = l[:cap(l)]
	for i := range l {
		l[i] = with
	}
}

func TestWhatIsHandedInIsNotKept(t *testing.T) { // P2
	for _, work := range []string{"", "flush", "compact"} {
		s, d := opened(t, api.Plan{Fail: []int{3}})
		want := has{"a": "123", "b": "", "d": "456"}
		for _, e := range []api.Errno{api.OK, api.ErrIO, api.OK} {
			l := []api.Put{put("a", "123"), put("b", ""), gone("c"), put("d", "456")}
			wantErrno(t, "Write", s.Write(l), e)
			for _, p := range l {
				spoil(p.Value, '!')
			}
			spoil(l, put("x", "!"))
			wantHas(t, "spoilt", s, want)
		}
		if work == "flush" {
			must(t, s.Flush())
		} else if work == "compact" {
			must(t, s.Compact())
		}
		wantHas(t, work, s, want)
		wantHas(t, work+", opened again", reopened(t, d), want)
	}
}

func TestWhatIsHandedInIsNotChanged(t *testing.T) { // P2
	long := []byte("abc.....")
	l := []api.Put{{Key: "a", Value: long[:3]}, {Key: "b", Value: long[3:3]}, {Key: "c", Value: long[1:2]}, put("behind", "the length"), {}}[:3]
	witness := slices.Clone(l[:5])
	s, _ := opened(t, api.Plan{Fail: []int{3}})
	for range 3 { // the second fails
		s.Write(l)
	}
	must(t, s.Flush(), s.Compact())
	wantText(t, "the bytes", string(long), "abc.....")
	for i, p := range l[:5] {
		w := witness[i]
		if p.Key != w.Key || p.Gone != w.Gone || len(p.Value) != len(w.Value) || len(p.Value) > 0 && &p.Value[0] != &w.Value[0] {
			t.Errorf("put %d is another one", i)
		}
	}
	wantHas(t, "what lies behind the length is not read", s, has{"a": "abc", "b": "", "c": "b"})
}

func TestWhatIsToldIsTheCallersOwn(t *testing.T) { // P2
	s, want := layered(t)
	nothing := func() api.Errno { return api.OK }
	for _, work := range []func() api.Errno{nothing, s.Flush, s.Compact} {
		must(t, work())
		each := s.Each("")
		for key := range want {
			one, _, _ := s.Get(key)
			other, _, _ := s.Get(key)
			spoil(one, '!')
			wantText(t, "another answer", string(other), want[key])
		}
		var told [][]byte
		for _, value := range each {
			told = append(told, value)
			spoil(value, '!')
		}
		for i, value := range told {
			spoil(value, byte('0'+i))
		}
		for i, value := range told {
			for _, b := range value {
				if b != byte('0'+i) {
					t.Errorf("value %d shares memory with another", i)
				}
			}
		}
		wantText(t, "gone over again", tell(each), want.text())
		wantHas(t, "the store", s, want)
	}
}

func TestNilAndEmptyAreTheSame(t *testing.T) { // P3
	for _, none := range [][]byte{nil, {}, make([]byte, 5)[:0]} {
		s, d := opened(t, api.Plan{})
		must(t, s.Write([]api.Put{{Key: "a", Value: none}, {Key: "b", Value: none, Gone: true}}))
		wantHas(t, "an empty value", s, has{"a": ""})
		must(t, s.Flush())
		wantFiles(t, "an empty value", d, files{"MANIFEST": manifestOf(2, 1), "LOG": nil,
			"SEG-0000000001": segmentOf(api.Put{Key: "a"}, api.Put{Key: "b", Gone: true})})
		wantHas(t, "opened again", reopened(t, d), has{"a": ""})
	}
}

func TestNothingBesideAnError(t *testing.T) { // P4: no value where there is none
	s, _ := layered(t)
	for _, key := range []string{"b", "d", "none", ""} {
		if b, is, e := s.Get(key); len(b) > 0 || is || e != api.OK {
			t.Errorf("Get %q: %q, %v, %d", key, b, is, e)
		}
	}
}
