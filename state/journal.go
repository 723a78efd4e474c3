package state

import (
	"slices"

	"cairn/api"
)

// journal is a list of functions that take back what was done, and the marks that it can be taken back to.
type journal struct {
	undo  []func()
	marks []int // of each mark, how many functions there were
}

// note takes a function that takes something back. Where there is no mark nobody can ask for that.
func (j *journal) note(undo func()) {
	if len(j.marks) > 0 {
		j.undo = append(j.undo, undo)
	}
}

func (j *journal) mark() int {
	j.marks = append(j.marks, len(j.undo))
	return len(j.marks) - 1
}

func (j *journal) back(mark int) api.Errno {
	if mark < 0 || mark >= len(j.marks) {
		return api.ErrRange
	}
	to := j.marks[mark]
	for _, undo := range slices.Backward(j.undo[to:]) {
		undo()
	}
	clear(j.undo[to:]) // else what they hold would be held on to
	j.undo = j.undo[:to]
	j.marks = j.marks[:mark]
	return api.OK
}

// include has a key in a set, and answers whether it was there.
func include[K comparable](j *journal, set table[K, struct{}], key K) bool {
	_, was := set[key]
	if !was {
		j.note(set.put(key, struct{}{}))
	}
	return was
}

// Mark answers a number by which Back finds what is now: P13.9
func (s *State) Mark() int {
	if !s.isMade() {
		return 0
	}
	return s.now.journal.mark()
}

// Back takes back all that was done since the mark of that number: P13.9
func (s *State) Back(mark int) api.Errno {
	if !s.isMade() {
		return api.ErrState
	}
	return s.now.journal.back(mark)
}
