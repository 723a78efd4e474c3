package disk_test

import (
	"testing"

	"cairn/api"
	"cairn/disk"
)

func TestNewHasNothing(t *testing.T) { // P1.1
	d := disk.New(api.Plan{})
	wantText(t, "a new disk", all(d), "ops 0 dead false files [] safe [] each []")
}

func TestNewGoesByItsPlan(t *testing.T) { // P1.1
	d := disk.New(api.Plan{Crash: 4, Fail: []int{1}, Full: []int{2}, Room: 1})
	wantErrno(t, "operation 1", d.Create("a"), api.ErrIO)
	wantErrno(t, "operation 2", d.Create("a"), api.ErrFull)
	wantErrno(t, "operation 3", d.Create("a"), api.OK)
	wantErrno(t, "operation 4", d.Append("a", []byte("x")), api.ErrDead)
}

func TestNobody(t *testing.T) { // P1.1
	for name, d := range map[string]*disk.Disk{"nil": nil, "a zero Disk": {}} {
		nobody := func() {
			t.Helper()
			for _, o := range operations() {
				wantErrno(t, name+": "+o.name, o.do(d), api.ErrDead)
			}
			b, e := d.Read("a", 0, 0)
			wantErrno(t, name+": Read", e, api.ErrDead)
			n, e := d.Size("a")
			wantErrno(t, name+": Size", e, api.ErrDead)
			if b != nil || n != 0 {
				t.Errorf("%s: Read and Size answer %v and %d beside their errors", name, b, n)
			}
			wantText(t, name, all(d), "ops 0 dead true files [] safe [] each []")
			if d.Clone() != nil {
				t.Errorf("%s: there is a clone", name)
			}
		}
		nobody()
		wantErrno(t, name+": Start", d.Start(api.Plan{}), api.ErrDead)
		nobody() // Start has not made one of it
	}
}
