package wal_test

import (
	"fmt"
	"testing"

	"cairn/api"
	"cairn/disk"
	"cairn/wal"
)

// model is a log by the chapter's words, as plain as can be, on a disk of its own.
type model struct {
	d     *disk.Disk
	list  [][][]byte
	wrong bool // an Append or a Reset answered an error of the disk, and nothing has set that right since
}

// firstError does operations of the disk, one behind the other, as long as they answer OK.
func firstError(operations ...func() api.Errno) api.Errno {
	for _, do := range operations {
		if e := do(); e != api.OK {
			return e
		}
	}
	return api.OK
}

func (m *model) truncate(long int) func() api.Errno {
	return func() api.Errno { return m.d.Truncate(name, long) }
}

func (m *model) sync() api.Errno { return m.d.Sync(name) }

func openModel(d *disk.Disk) (*model, api.Errno) {
	m := &model{d: d}
	size, e := d.Size(name)
	if e == api.ErrNoFile {
		return m, d.Create(name)
	}
	if e != api.OK {
		return nil, e
	}
	b, e := d.Read(name, 0, size)
	if e != api.OK {
		return nil, e
	}
	list, whole := wholeBeginning(b)
	m.list = list
	if whole == size {
		return m, api.OK
	}
	return m, firstError(m.truncate(whole), m.sync)
}

func (m *model) append(batch [][]byte) api.Errno {
	if _, ok := bodyBytes(batch); !ok {
		return api.ErrBatch
	}
	if m.wrong {
		if e := firstError(m.truncate(len(row(m.list...))), m.sync); e != api.OK {
			return e
		}
		m.wrong = false
	}
	e := firstError(func() api.Errno { return m.d.Append(name, plain(len(m.list), batch)) }, m.sync)
	if e == api.OK {
		m.list = append(m.list, batch)
	}
	m.wrong = e != api.OK
	return e
}

func (m *model) reset() api.Errno {
	m.wrong = true
	if e := m.truncate(0)(); e != api.OK {
		return e
	}
	m.list = nil
	e := m.sync()
	m.wrong = e != api.OK
	return e
}

// plan is one that lets anything happen now and then.
func (s *source) plan() api.Plan {
	p := api.Plan{Keep: []int{s.below(60) - 20, s.below(5) - 1, s.below(2)}}
	if s.below(3) == 0 {
		p.Crash = s.below(30)
	}
	if s.below(3) == 0 {
		p.Room = 50 + s.below(300)
	}
	for range s.below(8) {
		p.Fail = append(p.Fail, s.below(30))
	}
	for range s.below(4) {
		p.Full = append(p.Full, s.below(30))
	}
	return p
}

// disks tells all that lies on a disk and what has become of it.
func disks(d *disk.Disk) string {
	return fmt.Sprintf("%d %v %q %q", d.Ops(), d.Dead(), d.Files(), d.Safe())
}

func TestAgainstTheModel(t *testing.T) { // P10.3 to P10.6: each answer, each operation of the disk, and what is told
	for seed := range 1500 {
		s := source(seed)
		p := s.plan()
		d, twin := disk.New(p), disk.New(p)
		var l *wal.Log
		var m *model
		for step := range 40 {
			what := fmt.Sprint("seed ", seed, ", step ", step)
			kind := s.below(20)
			if l == nil && kind > 2 {
				kind = 0
			}
			switch {
			case kind == 0:
				var e, want api.Errno
				l, e = wal.Open(d, name)
				m, want = openModel(twin)
				wantErrno(t, what+": Open", e, want)
			case kind == 1:
				p := s.plan()
				must(t, d.Start(p), twin.Start(p))
			case kind == 2: // somebody else writes into the file, at its end
				b := s.bytes(s.below(40))
				d.Append(name, b)
				twin.Append(name, b)
				l = nil
			case kind < 6:
				wantErrno(t, what+": Reset", l.Reset(), m.reset())
			default:
				batch := s.batch()
				if s.below(10) == 0 {
					batch = nil
				}
				wantErrno(t, what+": Append", l.Append(batch), m.append(batch))
			}
			wantText(t, what+": the disk", disks(d), disks(twin))
			if l != nil {
				wantTold(t, what, l, m.list)
			}
			if t.Failed() {
				t.FailNow()
			}
		}
	}
}
