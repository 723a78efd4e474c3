package disk

import (
	"iter"
	"slices"
	"strings"

	"cairn/api"
)

// file is a file of a disk. Its data are kept beside what they come of (safe, with all changes done), so that reading need not do the
// changes over again; safe and data never share memory.
type file struct {
	name    string
	safe    []byte
	changes []change // since the data were last safe, in order
	data    []byte
}

// sync does the changes to the safe data, which costs no more than the changes are long, however long the file is.
func (f *file) sync() {
	for _, c := range f.changes {
		f.safe = c.apply(f.safe)
	}
	f.changes = nil
}

func (f *file) clone() *file {
	twin := &file{name: f.name, safe: copyBytes(f.safe), data: copyBytes(f.data)}
	for _, c := range f.changes {
		twin.changes = append(twin.changes, c.clone())
	}
	return twin
}

// all tells the disk's files in the order of their names' bytes; a nil Disk has none.
func (d *Disk) all() iter.Seq[*file] {
	return func(yield func(*file) bool) {
		if d == nil {
			return
		}
		for _, f := range d.files {
			if !yield(f) {
				return
			}
		}
	}
}

// place answers where the file of that name stands, or would stand, and whether it is there.
func (d *Disk) place(name string) (int, bool) {
	return slices.BinarySearchFunc(d.files, name, func(f *file, name string) int {
		return strings.Compare(f.name, name)
	})
}

// find answers the file of that name, or nil.
func (d *Disk) find(name string) *file {
	i, there := d.place(name)
	if !there {
		return nil
	}
	return d.files[i]
}

// insert takes in a file whose name no other has.
func (d *Disk) insert(f *file) {
	i, _ := d.place(f.name)
	d.files = slices.Insert(d.files, i, f)
}

// drop lets go of the file of that name, if there is one.
func (d *Disk) drop(name string) {
	if i, there := d.place(name); there {
		d.files = slices.Delete(d.files, i, i+1)
	}
}

func isName(name string) bool {
	if len(name) < 1 || len(name) > api.MaxName {
		return false
	}
	for _, b := range []byte(name) {
		if b < 33 || b > 126 || b == '/' {
			return false
		}
	}
	return true
}

func copyBytes(b []byte) []byte {
	c := make([]byte, len(b))
	copy(c, b)
	return c
}
