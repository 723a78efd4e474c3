// Package disk is layer 1, a stand-in for a disk with files: it dies, tears what was not synced, has no room or fails where its plan
// says so. See shared/doc/01-disk.md.
package disk

import (
	"iter"

	"cairn/api"
)

// Disk is a stand-in for a disk. One that New did not make answers as one that has died.
type Disk struct {
	made  bool // a Disk that nobody made has false here, and so counts as dead
	dead  bool
	plan  api.Plan
	ops   int
	files []*file // in the order of their names' bytes
}

// New answers a disk without files that goes by plan p (P1.1).
func New(p api.Plan) *Disk {
	return &Disk{made: true, plan: copyPlan(p)}
}

// Create makes an empty file that is safe at once (P1.3).
func (d *Disk) Create(name string) api.Errno {
	if e := d.begin(); e != api.OK {
		return e
	}
	switch {
	case !isName(name):
		return api.ErrName
	case d.find(name) != nil:
		return api.ErrFile
	case len(d.files) >= api.MaxFiles:
		return api.ErrLong
	case d.isFull(0):
		return api.ErrFull
	}
	d.insert(&file{name: name})
	return api.OK
}

// Append writes b at the end of the file's data (P1.3).
func (d *Disk) Append(name string, b []byte) api.Errno {
	f, e := d.beginOn(name)
	if e != api.OK {
		return e
	}
	at := len(f.data)
	if len(b) > api.MaxFile-at {
		return api.ErrLong
	}
	return d.change(f, write{at: at, bytes: copyBytes(b)}, at+len(b))
}

// WriteAt writes b from the place at on (P1.3).
func (d *Disk) WriteAt(name string, at int, b []byte) api.Errno {
	f, e := d.beginOn(name)
	switch {
	case e != api.OK:
		return e
	case at < 0:
		return api.ErrRange
	case at > api.MaxFile || len(b) > api.MaxFile-at: // the sum itself might not fit an int
		return api.ErrLong
	}
	return d.change(f, write{at: at, bytes: copyBytes(b)}, max(at+len(b), len(f.data)))
}

// Truncate makes the file's data long bytes long (P1.3).
func (d *Disk) Truncate(name string, long int) api.Errno {
	f, e := d.beginOn(name)
	switch {
	case e != api.OK:
		return e
	case long < 0:
		return api.ErrRange
	case long > api.MaxFile:
		return api.ErrLong
	}
	return d.change(f, cut{long: long}, long)
}

// Sync makes the file's data safe (P1.3).
func (d *Disk) Sync(name string) api.Errno {
	f, e := d.beginOn(name)
	if e != api.OK {
		return e
	}
	f.sync()
	return api.OK
}

// Rename gives a file another name, at once and safely; what has not been synced of it goes along (P1.3).
func (d *Disk) Rename(from, to string) api.Errno {
	f, e := d.beginOn(from)
	switch {
	case e != api.OK:
		return e
	case !isName(to):
		return api.ErrName
	case from == to:
		return api.OK
	}
	d.drop(from)
	d.drop(to)
	f.name = to
	d.insert(f)
	return api.OK
}

// Remove takes a file away, at once and safely (P1.3).
func (d *Disk) Remove(name string) api.Errno {
	if _, e := d.beginOn(name); e != api.OK {
		return e
	}
	d.drop(name)
	return api.OK
}

// Read answers n bytes of the file's data from the place at on (P1.4).
func (d *Disk) Read(name string, at, n int) ([]byte, api.Errno) {
	f, e := d.look(name)
	switch {
	case e != api.OK:
		return nil, e
	case at < 0 || n < 0:
		return nil, api.ErrRange
	case at > len(f.data) || n > len(f.data)-at: // the sum itself might not fit an int
		return nil, api.ErrRange
	}
	return copyBytes(f.data[at : at+n]), api.OK
}

// Size answers how many bytes the file's data have (P1.4).
func (d *Disk) Size(name string) (int, api.Errno) {
	f, e := d.look(name)
	if e != api.OK {
		return 0, e
	}
	return len(f.data), api.OK
}

// Files answers all files by their names, with their data; none of a disk that has died (P1.4).
func (d *Disk) Files() []api.File {
	if d.Dead() {
		return nil
	}
	var l []api.File
	for f := range d.all() {
		l = append(l, api.File{Name: f.name, Data: copyBytes(f.data)})
	}
	return l
}

// Each tells the files' names and sizes in the order of Files (P1.4). They are those of the call, so that whoever ranges may work on
// the disk meanwhile.
func (d *Disk) Each() iter.Seq2[string, int] {
	var names []string
	var sizes []int
	if !d.Dead() {
		for f := range d.all() {
			names = append(names, f.name)
			sizes = append(sizes, len(f.data))
		}
	}
	return func(yield func(string, int) bool) {
		for i, name := range names {
			if !yield(name, sizes[i]) {
				return
			}
		}
	}
}

// Safe answers all files by their names, with the data that are safe; of a disk that has died: what survived (P1.4).
func (d *Disk) Safe() []api.File {
	var l []api.File
	for f := range d.all() {
		l = append(l, api.File{Name: f.name, Data: copyBytes(f.safe)})
	}
	return l
}

// Ops answers how many operations were counted since New or Start (P1.5).
func (d *Disk) Ops() int {
	if d == nil {
		return 0
	}
	return d.ops
}

// Dead answers whether the disk has died; one that New did not make never lived (P1.1, P1.5).
func (d *Disk) Dead() bool {
	return d == nil || !d.made || d.dead
}

// Start lets the disk live by plan p, with what is safe; one that lives dies first, by its old plan (P1.6).
func (d *Disk) Start(p api.Plan) api.Errno {
	if d == nil || !d.made {
		return api.ErrDead
	}
	if !d.dead {
		d.die()
	}
	d.dead = false
	d.plan = copyPlan(p)
	d.ops = 0
	return api.OK
}

// Clone answers another disk that goes on as this one does, and shares nothing with it (P1.5, P1.9).
func (d *Disk) Clone() *Disk {
	if d == nil || !d.made {
		return nil
	}
	twin := &Disk{made: true, dead: d.dead, plan: copyPlan(d.plan), ops: d.ops}
	for f := range d.all() {
		twin.files = append(twin.files, f.clone())
	}
	return twin
}
