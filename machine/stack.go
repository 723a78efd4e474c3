package machine

import "slices"

// stack is values laid upon one another. Whoever takes from it has seen to it that they are there.
type stack[T any] struct {
	items []T // the lowest first
}

func (s *stack[T]) size() int { return len(s.items) }

func (s *stack[T]) push(x T) { s.items = append(s.items, x) }

// drop takes the n topmost away.
func (s *stack[T]) drop(n int) { s.items = s.items[:len(s.items)-n] }

// below answers the one that has n others above it.
func (s *stack[T]) below(n int) T { return s.items[s.place(n)] }

// exchange lets the top and the one that has n above it change places.
func (s *stack[T]) exchange(n int) {
	top, other := s.place(0), s.place(n)
	s.items[top], s.items[other] = s.items[other], s.items[top]
}

func (s *stack[T]) place(n int) int { return len(s.items) - 1 - n }

// all answers a copy, the lowest first.
func (s *stack[T]) all() []T { return slices.Clone(s.items) }
