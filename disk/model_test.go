package disk_test

import (
	"fmt"
	"slices"
	"strings"
	"testing"

	"cairn/api"
	"cairn/disk"
)

// model is the chapter's words, taken literally: a file is its safe data and a list of changes, and its data are reckoned from these
// whenever they are asked for.
type model struct {
	plan  api.Plan
	ops   int
	dead  bool
	files map[string]modelFile
}

type modelFile struct {
	safe    string
	changes []modelChange
}

type modelChange struct {
	isCut    bool
	at, long int
	bytes    string
}

func (c modelChange) on(data string) string {
	long := c.long
	if !c.isCut {
		long = max(len(data), c.at+len(c.bytes))
	}
	out := ""
	for i := range long {
		switch {
		case !c.isCut && i >= c.at && i < c.at+len(c.bytes):
			out += c.bytes[i-c.at : i-c.at+1]
		case i < len(data):
			out += data[i : i+1]
		default:
			out += "\x00"
		}
	}
	return out
}

func (f modelFile) data() string {
	data := f.safe
	for _, c := range f.changes {
		data = c.on(data)
	}
	return data
}

func (m *model) names() []string {
	var l []string
	for name := range m.files {
		l = append(l, name)
	}
	slices.Sort(l)
	return l
}

func (m *model) total() int {
	sum := 0
	for _, f := range m.files {
		sum += len(f.data())
	}
	return sum
}

func (m *model) die() {
	taken := 0
	for _, name := range m.names() {
		f := m.files[name]
		for _, c := range f.changes {
			k := 0
			if len(m.plan.Keep) > 0 {
				k = m.plan.Keep[taken%len(m.plan.Keep)]
			}
			taken++
			if k >= 0 && !c.isCut {
				c.bytes = c.bytes[:k%(len(c.bytes)+1)]
			}
			if k < 0 || c.isCut && k%2 == 1 || !c.isCut && c.bytes != "" {
				f.safe = c.on(f.safe)
			}
		}
		m.files[name] = modelFile{safe: f.safe}
	}
	m.dead = true
}

func (m *model) start(p api.Plan) {
	if !m.dead {
		m.die()
	}
	m.plan, m.ops, m.dead = p, 0, false
}

// call is an operation with its arguments.
type call struct {
	kind     string
	name, to string
	at       int
	bytes    string
}

func (c call) on(d *disk.Disk) api.Errno {
	switch c.kind {
	case "Create":
		return d.Create(c.name)
	case "Append":
		return d.Append(c.name, []byte(c.bytes))
	case "WriteAt":
		return d.WriteAt(c.name, c.at, []byte(c.bytes))
	case "Truncate":
		return d.Truncate(c.name, c.at)
	case "Sync":
		return d.Sync(c.name)
	case "Rename":
		return d.Rename(c.name, c.to)
	}
	return d.Remove(c.name)
}

func modelName(name string) bool {
	return len(name) >= 1 && len(name) <= 32 && !strings.ContainsFunc(name, func(r rune) bool { return r < 33 || r > 126 || r == '/' })
}

// refused is what P1.3 names for a call, OK if nothing.
func (m *model) refused(c call) api.Errno {
	f, there := m.files[c.name]
	switch {
	case c.kind == "Create" && !modelName(c.name):
		return api.ErrName
	case c.kind == "Create" && there:
		return api.ErrFile
	case c.kind == "Create":
		return api.OK
	case !there:
		return api.ErrNoFile
	case (c.kind == "WriteAt" || c.kind == "Truncate") && c.at < 0:
		return api.ErrRange
	case c.kind == "Append" && len(f.data())+len(c.bytes) > api.MaxFile, c.kind == "WriteAt" && c.at+len(c.bytes) > api.MaxFile,
		c.kind == "Truncate" && c.at > api.MaxFile:
		return api.ErrLong
	case c.kind == "Rename" && !modelName(c.to):
		return api.ErrName
	}
	return api.OK
}

func (m *model) do(c call) api.Errno {
	if m.dead {
		return api.ErrDead
	}
	m.ops++
	if m.ops == m.plan.Crash {
		m.die()
		return api.ErrDead
	}
	if slices.Contains(m.plan.Fail, m.ops) {
		return api.ErrIO
	}
	if e := m.refused(c); e != api.OK {
		return e
	}
	before, was := m.files[c.name], m.total()
	f := before
	switch c.kind {
	case "Append":
		f.changes = append(slices.Clone(f.changes), modelChange{at: len(f.data()), bytes: c.bytes})
	case "WriteAt":
		f.changes = append(slices.Clone(f.changes), modelChange{at: c.at, bytes: c.bytes})
	case "Truncate":
		f.changes = append(slices.Clone(f.changes), modelChange{isCut: true, long: c.at})
	case "Sync":
		f = modelFile{safe: f.data()}
	case "Rename":
		delete(m.files, c.name)
		m.files[c.to] = f
		return api.OK
	case "Remove":
		delete(m.files, c.name)
		return api.OK
	}
	m.files[c.name] = f
	if c.kind == "Sync" {
		return api.OK
	}
	if now := m.total(); slices.Contains(m.plan.Full, m.ops) || m.plan.Room > 0 && now > m.plan.Room && now > was {
		m.files[c.name] = before
		if c.kind == "Create" {
			delete(m.files, c.name)
		}
		return api.ErrFull
	}
	return api.OK
}

// told is what helper all tells of a disk.
func (m *model) told() string {
	var files, safe, each []string
	rest := ""
	for _, name := range m.names() {
		safe = append(safe, fmt.Sprintf("%s=%q", name, m.files[name].safe))
		if data := m.files[name].data(); !m.dead {
			files = append(files, fmt.Sprintf("%s=%q", name, data))
			each = append(each, fmt.Sprintf("%s:%d", name, len(data)))
			rest += fmt.Sprintf(" %s %d %d %q %d", name, len(data), api.OK, data, api.OK)
		} else {
			rest += fmt.Sprintf(" %s 0 %d \"\" %d", name, api.ErrDead, api.ErrDead)
		}
	}
	if !m.dead {
		rest += rest // once for Files, once for Safe
	}
	join := func(l []string) string { return strings.Join(l, " ") }
	return fmt.Sprintf("ops %d dead %v files [%s] safe [%s] each [%s]", m.ops, m.dead, join(files), join(safe), join(each)) + rest
}

func somePlan(s *source) api.Plan {
	some := func(most, from, span int) []int {
		var l []int
		for range s.below(most + 1) {
			l = append(l, from+s.below(span))
		}
		return l
	}
	return api.Plan{Crash: s.below(40), Keep: some(4, -2, 9), Fail: some(3, 0, 30), Full: some(3, 0, 30), Room: s.below(3) * s.below(20)}
}

func someCall(s *source) call {
	kinds := []string{"Create", "Create", "Append", "Append", "Append", "WriteAt", "WriteAt", "Truncate", "Sync", "Rename", "Remove"}
	names := []string{"a", "b", "B", "c", "a", "b", "c", "", "x/y", strings.Repeat("z", 32), strings.Repeat("z", 33)}
	places := []int{-1, 0, 1, 2, 3, 4, 5, 6, 7, 8, api.MaxFile + 1}
	return call{kinds[s.below(len(kinds))], names[s.below(len(names))], names[s.below(len(names))], places[s.below(len(places))],
		"0123456789"[:s.below(6)]}
}

func TestAgainstTheModel(t *testing.T) { // P1.1 to P1.6
	for seed := range 600 {
		s := source(seed)
		p := somePlan(&s)
		d, m := disk.New(p), &model{plan: p, files: map[string]modelFile{}}
		for i := range 150 {
			if s.below(25) == 0 {
				p := somePlan(&s)
				must(t, d.Start(p))
				m.start(p)
			}
			if s.below(15) == 0 {
				d = d.Clone()
			}
			c := someCall(&s)
			got, want := c.on(d), m.do(c)
			if got != want || all(d) != m.told() {
				t.Fatalf("seed %d, step %d, %+v: got %d, want %d\n%s\n%s", seed, i, c, got, want, all(d), m.told())
			}
		}
	}
}
