package store

import (
	"bytes"

	"cairn/api"
	"cairn/disk"
)

// readFile answers all that a file has.
func readFile(d *disk.Disk, name string) ([]byte, api.Errno) {
	size, e := d.Size(name)
	if e != api.OK {
		return nil, e
	}
	return d.Read(name, 0, size)
}

// writeFile lays a file with these bytes, safely. One that an error or a death has left in its way is removed first.
func writeFile(d *disk.Disk, name string, b []byte) api.Errno {
	if e := removeFile(d, name); e != api.OK {
		return e
	}
	if e := d.Create(name); e != api.OK {
		return e
	}
	if e := d.Append(name, b); e != api.OK {
		return e
	}
	return d.Sync(name)
}

// removeFile removes a file, if it is there.
func removeFile(d *disk.Disk, name string) api.Errno {
	if _, e := d.Size(name); e == api.ErrNoFile {
		return api.OK
	}
	return d.Remove(name)
}

// isSafe answers whether a file's data are what is safe of them.
func isSafe(d *disk.Disk, name string) bool {
	data, e := readFile(d, name)
	if e != api.OK {
		return false
	}
	for _, f := range d.Safe() {
		if f.Name == name {
			return bytes.Equal(f.Data, data)
		}
	}
	return false
}
