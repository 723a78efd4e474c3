package store

import (
	"slices"
	"strings"

	"cairn/api"
	"cairn/disk"
	"cairn/wal"
)

// Open answers the store on a disk: P11.3
func Open(d *disk.Disk) (*Store, api.Errno) {
	m, e := openManifest(d)
	if e != api.OK {
		return nil, e
	}
	s := &Store{disk: d, manifest: m}
	for _, step := range []func() api.Errno{s.loadSegments, s.removeOthers, s.openLog, s.syncLog} {
		if e := step(); e != api.OK {
			return nil, e
		}
	}
	return s, api.OK
}

// loadSegments takes the puts of all segments that the manifest names.
func (s *Store) loadSegments() api.Errno {
	for _, number := range s.manifest.segments {
		puts, e := loadSegment(s.disk, number)
		if e != api.OK {
			return e
		}
		s.laid = s.laid.with(puts)
	}
	for range living(s.laid.over(nothing, "")) {
		s.many++
	}
	return api.OK
}

// removeOthers removes the files that a death or an error left.
func (s *Store) removeOthers() api.Errno {
	var named []string
	for _, number := range s.manifest.segments {
		named = append(named, segmentName(number))
	}
	slices.Sort(named)
	for name := range s.disk.Each() {
		if _, is := slices.BinarySearch(named, name); is || !strings.HasPrefix(name, segmentPrefix) {
			continue
		}
		if e := s.disk.Remove(name); e != api.OK {
			return e
		}
	}
	return removeFile(s.disk, draftName)
}

// openLog opens the log and takes its puts.
func (s *Store) openLog() api.Errno {
	log, e := wal.Open(s.disk, logName)
	if e != api.OK {
		return e
	}
	s.log = log
	for _, record := range log.Each() {
		if !s.take(record) {
			return api.ErrManifest
		}
	}
	return api.OK
}

// syncLog makes the log's file safe where it isn't: on a disk that has not died since, calls of another store that failed may have left
// changes. Else a death in a Write could lose a cut of those, and so find old batches behind the new one.
func (s *Store) syncLog() api.Errno {
	if isSafe(s.disk, logName) {
		return api.OK
	}
	return s.disk.Sync(logName)
}
