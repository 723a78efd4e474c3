package store

import (
	"strconv"
	"strings"

	"cairn/api"
	"cairn/disk"
)

const (
	segmentPrefix = "SEG-"
	segmentDigits = 10
	lastSegment   = 9_999_999_999 // the greatest number that has so many digits
)

// segmentName answers the name of the file of a segment, whose number is at most lastSegment.
func segmentName(number uint64) string {
	digits := strconv.FormatUint(number, 10)
	return segmentPrefix + strings.Repeat("0", segmentDigits-len(digits)) + digits
}

// segmentBytes answers the bytes of a segment with these puts.
func segmentBytes(puts list[value]) []byte {
	long := sealBytes
	for _, e := range puts {
		long += lengthBytes + recordLength(e.key, e.value)
	}
	b := make([]byte, 0, long)
	for _, e := range puts {
		b = putNumber(b, uint64(recordLength(e.key, e.value)), lengthBytes)
		b = putRecord(b, e.key, e.value)
	}
	return sealed(b)
}

// readSegment answers the puts of the segment whose bytes b are, if they are one's. The values' bytes are parts of b.
func readSegment(b []byte) (list[value], bool) {
	body, whole := unsealed(b)
	if !whole {
		return nil, false
	}
	var puts list[value]
	last := "" // less than every key
	for record, there := range records(body) {
		key, v, is := readRecord(record)
		if !there || !is || key <= last {
			return nil, false
		}
		puts = append(puts, entry[value]{key: key, value: v})
		last = key
	}
	return puts, true
}

// loadSegment answers the puts of the segment of that number on the disk: ErrManifest, if it isn't there or is none.
func loadSegment(d *disk.Disk, number uint64) (list[value], api.Errno) {
	if number > lastSegment { // there is no name that such a file could have
		return nil, api.ErrManifest
	}
	b, e := readFile(d, segmentName(number))
	switch e {
	case api.OK:
	case api.ErrNoFile:
		return nil, api.ErrManifest
	default:
		return nil, e
	}
	puts, is := readSegment(b)
	if !is {
		return nil, api.ErrManifest
	}
	return puts, api.OK
}
