package disk

import (
	"slices"

	"cairn/api"
)

func copyPlan(p api.Plan) api.Plan {
	p.Keep = slices.Clone(p.Keep)
	p.Fail = slices.Clone(p.Fail)
	p.Full = slices.Clone(p.Full)
	return p
}

// begin counts an operation and answers what the plan has it answer, whatever it would do: the first steps of P1.2.
func (d *Disk) begin() api.Errno {
	if d.Dead() {
		return api.ErrDead
	}
	d.ops++
	if d.ops == d.plan.Crash {
		d.die()
		return api.ErrDead
	}
	if slices.Contains(d.plan.Fail, d.ops) {
		return api.ErrIO
	}
	return api.OK
}

// beginOn begins an operation on a file that must be there.
func (d *Disk) beginOn(name string) (*file, api.Errno) {
	if e := d.begin(); e != api.OK {
		return nil, e
	}
	return d.look(name)
}

// look answers a file of a disk that lives; it is no operation, and isn't counted.
func (d *Disk) look(name string) (*file, api.Errno) {
	if d.Dead() {
		return nil, api.ErrDead
	}
	f := d.find(name)
	if f == nil {
		return nil, api.ErrNoFile
	}
	return f, api.OK
}

// change does c to f, whose data then have long bytes, if there is room.
func (d *Disk) change(f *file, c change, long int) api.Errno {
	if d.isFull(long - len(f.data)) {
		return api.ErrFull
	}
	f.changes = append(f.changes, c)
	f.data = c.apply(f.data)
	return api.OK
}

// isFull answers whether there is no room for the operation under way, which makes the files' data longer by more bytes. One that makes
// them no longer has room enough even where they are too long already.
func (d *Disk) isFull(more int) bool {
	if slices.Contains(d.plan.Full, d.ops) {
		return true
	}
	return d.plan.Room > 0 && more > 0 && d.total()+more > d.plan.Room
}

// total answers how many bytes all files' data have together.
func (d *Disk) total() int {
	sum := 0
	for f := range d.all() {
		sum += len(f.data)
	}
	return sum
}

// die loses what the plan lets go of what was not synced; what is left is safe (P1.6).
func (d *Disk) die() {
	next := 0
	for f := range d.all() {
		for _, c := range f.changes {
			f.safe = c.survive(f.safe, d.keep(next))
			next++
		}
		f.changes = nil
		f.data = copyBytes(f.safe)
	}
	d.dead = true
}

// keep answers the number of the plan's Keep that the change of that number takes.
func (d *Disk) keep(i int) int {
	if len(d.plan.Keep) == 0 {
		return 0
	}
	return d.plan.Keep[i%len(d.plan.Keep)]
}
