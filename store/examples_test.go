package store_test

import (
	"testing"

	"cairn/api"
	"cairn/disk"
	"cairn/store"
)

func TestExample1(t *testing.T) {
	for _, together := range []bool{false, true} {
		s, d := opened(t, api.Plan{})
		if together {
			must(t, s.Write([]api.Put{put("a", "\x01"), put("b", "\x02")}))
		} else {
			must(t, s.Write([]api.Put{put("a", "\x01")}), s.Write([]api.Put{put("b", "\x02")}))
		}
		must(t, s.Flush(), s.Write([]api.Put{gone("a")}))
		wantNone(t, "a is gone", s, "a")
		wantHas(t, "a is gone", s, has{"b": "\x02"})
		wantCounts(t, "a is gone", s, 1, 1)
		wantErrno(t, "Compact", s.Compact(), api.OK)
		wantHas(t, "compacted", s, has{"b": "\x02"})
		wantCounts(t, "compacted", s, 1, 0)
		wantHas(t, "opened again", reopened(t, d), has{"b": "\x02"})
	}
}

func TestExample2(t *testing.T) {
	d := disk.New(api.Plan{})
	must(t, d.Create("MANIFEST"), d.Append("MANIFEST", []byte{1, 2, 3}))
	s, e := store.Open(d)
	wantErrno(t, "a MANIFEST of three bytes", e, api.ErrManifest)
	if s != nil {
		t.Error("a store beside the error")
	}
}
