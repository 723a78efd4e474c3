package store

import (
	"slices"

	"cairn/api"
	"cairn/disk"
)

const (
	manifestName = "MANIFEST"
	draftName    = "MANIFEST.new" // what is to be the manifest, while it is written
)

// manifest names the segments that count.
type manifest struct {
	segments []uint64 // the oldest first
	next     uint64
}

func (m manifest) bytes() []byte {
	var b []byte
	for _, number := range m.segments {
		b = putNumber(b, number, numberBytes)
	}
	return sealed(putNumber(b, m.next, numberBytes))
}

// isGood answers whether all numbers are from 1 on and below the next one's, and none stands twice.
func (m manifest) isGood() bool {
	last := uint64(0)
	for _, number := range append(slices.Sorted(slices.Values(m.segments)), m.next) {
		if number <= last {
			return false
		}
		last = number
	}
	return true
}

// readManifest answers the manifest whose bytes b are, if they are one's.
func readManifest(b []byte) (manifest, bool) {
	body, whole := unsealed(b)
	if !whole || len(body) < numberBytes || len(body)%numberBytes != 0 {
		return manifest{}, false
	}
	end := len(body) - numberBytes
	m := manifest{next: readNumber(body[end:])}
	for number := range slices.Chunk(body[:end], numberBytes) {
		m.segments = append(m.segments, readNumber(number))
	}
	return m, m.isGood()
}

// lay makes m the manifest on the disk: P11.6. It is renamed once it is safe, so that behind a death there is the old one or this one.
func (m manifest) lay(d *disk.Disk) api.Errno {
	if e := writeFile(d, draftName, m.bytes()); e != api.OK {
		return e
	}
	return d.Rename(draftName, manifestName)
}

// openManifest answers the manifest on the disk, and lays the first one where there is none.
func openManifest(d *disk.Disk) (manifest, api.Errno) {
	b, e := readFile(d, manifestName)
	switch e {
	case api.OK:
	case api.ErrNoFile:
		first := manifest{next: 1}
		return first, first.lay(d)
	default:
		return manifest{}, e
	}
	m, is := readManifest(b)
	if !is {
		return manifest{}, api.ErrManifest
	}
	return m, api.OK
}
