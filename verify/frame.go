package verify

import (
	"slices"

	"gneiss/api"
)

// A frame is what is told of a method's locals, and of its stack from the bottom up, each in a list.
type frame[L ~[]T, T any] struct {
	locals L
	stack  L
}

// A state is a frame of types.
type state = frame[[]int, int]

// newFrame has lists of its own: a map's must stay what they are, whatever is stored and pushed from there on.
func newFrame[L ~[]T, T any](locals L, stack L) frame[L, T] {
	return frame[L, T]{slices.Clone(locals), slices.Clone(stack)}
}

func beginning(class int, m api.Method) state {
	locals := make([]int, 0, m.Locals)
	if !m.Static {
		locals = append(locals, api.TypeClass+class)
	}
	locals = append(locals, m.Args...)
	for len(locals) < m.Locals {
		locals = append(locals, api.TypeNone)
	}
	return state{locals: locals}
}

// fits tells whether by all the locals, and then the stack, may be those of other.
func (f frame[L, T]) fits(other frame[L, T], all func(have, want L) bool) bool {
	return all(f.locals, other.locals) && all(f.stack, other.stack)
}

func (f *frame[L, T]) push(values L) {
	f.stack = append(f.stack, values...)
}

// pop takes count values off the stack, if there are as many; they stand as they stood there.
func (f *frame[L, T]) pop(count int) (L, bool) {
	left := len(f.stack) - count
	if left < 0 {
		return nil, false
	}
	popped := slices.Clone(f.stack[left:])
	f.stack = f.stack[:left]
	return popped, true
}
