package model

import "slices"

// A stack is a row of items: what came last goes first.
type stack[T any] struct {
	items []T
}

// push puts the items on top, the last one topmost.
func (s *stack[T]) push(items ...T) {
	s.items = append(s.items, items...)
}

// pop takes the last item off; it is only asked for where there is one.
func (s *stack[T]) pop() T {
	return s.popLast(1)[0]
}

// popLast takes the last items off, so many; they stand as they stood there, up to the next push.
func (s *stack[T]) popLast(count int) []T {
	left := len(s.items) - count
	last := s.items[left:]
	s.items = s.items[:left]
	return last
}

// top is the last item, and whether there is one.
func (s *stack[T]) top() (T, bool) {
	if len(s.items) == 0 {
		var none T
		return none, false
	}
	return s.items[len(s.items)-1], true
}

func (s *stack[T]) depth() int {
	return len(s.items)
}

func (s *stack[T]) empty() {
	s.items = s.items[:0]
}

// copies is what each item is by own.
func copies[T any](items []T, own func(T) T) []T {
	all := slices.Clone(items)
	for i, item := range all {
		all[i] = own(item)
	}
	return all
}
