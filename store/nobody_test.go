package store_test

import (
	"strings"
	"testing"

	"cairn/api"
	"cairn/store"
)

func TestNobody(t *testing.T) { // P11.1
	for what, s := range map[string]*store.Store{"nil": nil, "new": new(store.Store), "a literal": {}} {
		for range 2 {
			for _, key := range []string{"", "a", "MANIFEST", strings.Repeat("k", api.MaxKey+1)} {
				if b, is, e := s.Get(key); len(b) > 0 || is || e != api.ErrStore {
					t.Errorf("%s: Get: %q, %v, %d", what, b, is, e)
				}
				wantText(t, what+": Each", tell(s.Each(key)), "")
			}
			for _, l := range [][]api.Put{nil, {}, {put("a", "1")}, {gone("a")}, {put("", "")}, make([]api.Put, api.MaxBatch+1)} {
				wantErrno(t, what+": Write", s.Write(l), api.ErrStore)
			}
			wantErrno(t, what+": Flush", s.Flush(), api.ErrStore)
			wantErrno(t, what+": Compact", s.Compact(), api.ErrStore)
			wantCounts(t, what, s, 0, 0)
			if s.Len() != 0 {
				t.Errorf("%s: Len %d", what, s.Len())
			}
		}
	}
}
