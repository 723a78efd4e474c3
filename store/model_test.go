package store_test

import (
	"bytes"
	"fmt"
	"maps"
	"slices"
	"strings"
	"testing"

	"cairn/api"
	"cairn/disk"
	"cairn/store"
	"cairn/wal"
)

// model is a store by the chapter's words, as plain as can be, on a disk of its own.
type model struct {
	d        *disk.Disk
	log      *wal.Log
	numbers  []uint64
	next     uint64
	segments map[uint64][]api.Put
}

// firstError does operations of the disk, one behind the other, as long as they answer OK.
func firstError(operations ...func() api.Errno) api.Errno {
	for _, do := range operations {
		if e := do(); e != api.OK {
			return e
		}
	}
	return api.OK
}

// number is the number of bytes, the least ahead.
func number(b []byte) (n uint64) {
	for i, x := range b {
		n |= uint64(x) << (8 * i)
	}
	return n
}

// putOf is the put of a record that is one's.
func putOf(record []byte) api.Put {
	key := record[2 : 2+record[1]]
	return api.Put{Key: string(key), Value: record[2+record[1]:], Gone: record[0] == 1}
}

func (m *model) name(n uint64) string { return fmt.Sprintf("SEG-%010d", n) }

// lay is a file created, appended and synced; what is in the way is removed.
func (m *model) lay(name string, b []byte) api.Errno {
	l := []func() api.Errno{
		func() api.Errno { return m.d.Create(name) },
		func() api.Errno { return m.d.Append(name, b) },
		func() api.Errno { return m.d.Sync(name) },
	}
	if _, e := m.d.Size(name); e == api.OK {
		l = append([]func() api.Errno{func() api.Errno { return m.d.Remove(name) }}, l...)
	}
	return firstError(l...)
}

// change is the manifest's change.
func (m *model) change(next uint64, numbers ...uint64) api.Errno {
	e := firstError(
		func() api.Errno { return m.lay("MANIFEST.new", manifestOf(next, numbers...)) },
		func() api.Errno { return m.d.Rename("MANIFEST.new", "MANIFEST") },
	)
	if e == api.OK {
		m.next, m.numbers = next, numbers
	}
	return e
}

// whole is all that a file has.
func (m *model) whole(name string) ([]byte, api.Errno) {
	size, e := m.d.Size(name)
	if e != api.OK {
		return nil, e
	}
	return m.d.Read(name, 0, size)
}

// openModel opens a store that only the calls of a store laid down: all that the manifest names is there.
func openModel(d *disk.Disk) (*model, api.Errno) {
	m := &model{d: d, segments: map[uint64][]api.Put{}}
	b, e := m.whole("MANIFEST")
	if e == api.ErrNoFile {
		e = m.change(1)
		b, _ = m.whole("MANIFEST")
	}
	if e != api.OK {
		return nil, e
	}
	var numbers []uint64
	for at := 0; at+8 < len(b); at += 8 {
		numbers = append(numbers, number(b[at:at+8]))
	}
	m.numbers, m.next = numbers[:len(numbers)-1], numbers[len(numbers)-1]
	for _, n := range m.numbers {
		b, _ := m.whole(m.name(n))
		for at := 0; at+8 < len(b); {
			long := int(number(b[at : at+4]))
			m.segments[n] = append(m.segments[n], putOf(b[at+4:at+4+long]))
			at += 4 + long
		}
	}
	if e := m.removeOthers(); e != api.OK {
		return nil, e
	}
	if m.log, e = wal.Open(d, "LOG"); e != api.OK {
		return nil, e
	}
	return m, m.syncLog()
}

func (m *model) removeOthers() api.Errno {
	var others []string
	for _, f := range m.d.Files() {
		named := slices.ContainsFunc(m.numbers, func(n uint64) bool { return m.name(n) == f.Name })
		if strings.HasPrefix(f.Name, "SEG-") && !named {
			others = append(others, f.Name)
		}
	}
	if _, e := m.d.Size("MANIFEST.new"); e == api.OK {
		others = append(others, "MANIFEST.new")
	}
	for _, name := range others {
		if e := m.d.Remove(name); e != api.OK {
			return e
		}
	}
	return api.OK
}

// syncLog is no word of the chapter's: where the log's file has changes that nobody synced, on a disk that has not died since, P11.8 does
// not hold without it.
func (m *model) syncLog() api.Errno {
	b, _ := m.whole("LOG")
	if bytes.Equal(b, lies(m.d)["LOG"]) {
		return api.OK
	}
	return m.d.Sync("LOG")
}

func (m *model) write(l []api.Put) api.Errno {
	var batch [][]byte
	for _, p := range l {
		batch = append(batch, recordOf(p))
	}
	if len(l) == 0 {
		return api.OK
	}
	return m.log.Append(batch)
}

// last are the last puts of keys, in the order of the keys.
func last(puts []api.Put) []api.Put {
	by := map[string]api.Put{}
	for _, p := range puts {
		by[p.Key] = p
	}
	var l []api.Put
	for _, key := range slices.Sorted(maps.Keys(by)) {
		l = append(l, by[key])
	}
	return l
}

// logged are the puts of the log, laidDown those of the segments, in their order.
func (m *model) logged() []api.Put {
	var l []api.Put
	for _, record := range m.log.Each() {
		l = append(l, putOf(record))
	}
	return l
}

func (m *model) laidDown() []api.Put {
	var l []api.Put
	for _, n := range m.numbers {
		l = append(l, m.segments[n]...)
	}
	return l
}

func (m *model) flush() api.Errno {
	if m.log.Count() == 0 {
		return api.OK
	}
	n := m.next
	m.segments[n] = last(m.logged())
	return firstError(
		func() api.Errno { return m.lay(m.name(n), segmentOf(m.segments[n]...)) },
		func() api.Errno { return m.change(n+1, append(slices.Clone(m.numbers), n)...) },
		m.log.Reset,
	)
}

func (m *model) compact() api.Errno {
	if e := m.flush(); e != api.OK {
		return e
	}
	isGone := func(p api.Put) bool { return p.Gone }
	if len(m.numbers) == 0 || len(m.numbers) == 1 && !slices.ContainsFunc(m.laidDown(), isGone) {
		return api.OK
	}
	n, old := m.next, m.numbers
	m.segments[n] = slices.DeleteFunc(last(m.laidDown()), isGone)
	l := []func() api.Errno{
		func() api.Errno { return m.lay(m.name(n), segmentOf(m.segments[n]...)) },
		func() api.Errno { return m.change(n+1, n) },
	}
	for _, o := range old {
		l = append(l, func() api.Errno { return m.d.Remove(m.name(o)) })
	}
	return firstError(l...)
}

// plan is one that lets anything happen now and then.
func (s *source) plan() api.Plan {
	p := api.Plan{Keep: []int{s.below(60) - 20, s.below(5) - 1, s.below(2)}}
	if s.below(3) == 0 {
		p.Crash = s.below(60)
	}
	if s.below(4) == 0 {
		p.Room = 50 + s.below(600)
	}
	for range s.below(8) {
		p.Fail = append(p.Fail, s.below(60))
	}
	for range s.below(4) {
		p.Full = append(p.Full, s.below(60))
	}
	return p
}

// all tells all that lies on a disk and what has become of it.
func all(d *disk.Disk) string {
	return fmt.Sprintf("%d %v %q %q", d.Ops(), d.Dead(), d.Files(), d.Safe())
}

func TestAgainstTheModel(t *testing.T) { // P11.2 to P11.7: each answer, each operation of the disk, and what is told
	oks, errors := 0, 0
	for seed := range 1500 {
		r := source(seed)
		p := r.plan()
		d, twin := disk.New(p), disk.New(p)
		var s *store.Store
		var m *model
		for step := range 40 {
			what := fmt.Sprint("seed ", seed, ", step ", step)
			kind := r.below(20)
			if s == nil && kind > 2 {
				kind = 0
			}
			var e, want api.Errno
			switch {
			case kind == 0:
				s, e = store.Open(d)
				m, want = openModel(twin)
			case kind == 1:
				p := r.plan()
				e, want = d.Start(p), twin.Start(p)
			case kind == 2: // somebody leaves files
				name := []string{"SEG-0000000003", "SEG-0000000009", "SEG-x", "MANIFEST.new", "other"}[r.below(5)]
				e, want = d.Create(name), twin.Create(name)
				s = nil
			case kind < 7:
				e, want = s.Flush(), m.flush()
			case kind < 10:
				e, want = s.Compact(), m.compact()
			default:
				l := r.puts()
				if r.below(10) == 0 {
					l = nil
				}
				e, want = s.Write(l), m.write(l)
			}
			wantErrno(t, what, e, want)
			wantText(t, what+": the disk", all(d), all(twin))
			if s != nil {
				wantHas(t, what, s, has{}.with(m.laidDown()...).with(m.logged()...))
				wantCounts(t, what, s, len(m.numbers), m.log.Count())
			}
			if e == api.OK {
				oks++
			} else {
				errors++
			}
			if t.Failed() {
				t.Fatalf("the step was of kind %d", kind)
			}
		}
	}
	if oks < 10000 || errors < 5000 {
		t.Errorf("only %d calls went well, only %d did not", oks, errors)
	}
}
