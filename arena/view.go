package arena

import "gneiss/api"

// View reads and writes the words of an arena as values of type T; the arena's errors and steps are the view's too.
// Two values are one to Swap just if they are written as one word.
type View[T any] struct {
	arena *Arena
	read  func(word int) T
	write func(value T) int
}

// ViewOf is the view of a by read and write, which turn words into values and back. Each call of a view of a nil
// arena, or by nil functions, answers ErrNil.
func ViewOf[T any](a *Arena, read func(word int) T, write func(value T) int) View[T] {
	if read == nil || write == nil {
		return View[T]{}
	}
	return View[T]{arena: a, read: read, write: write}
}

// Load is the value at place at.
func (v View[T]) Load(agent int, at int) (T, api.Errno) {
	word, code := v.arena.step(agent, at)
	if code != api.OK {
		var none T
		return none, code
	}
	return v.read(*word), api.OK
}

// Store makes the word at place at stand for value.
func (v View[T]) Store(agent int, at int, value T) api.Errno {
	word, code := v.arena.step(agent, at)
	if code != api.OK {
		return code
	}
	*word = v.write(value)
	return api.OK
}

// Swap makes the word at place at stand for value if it stands for old, and tells whether it did.
func (v View[T]) Swap(agent int, at int, old T, value T) (bool, api.Errno) {
	word, code := v.arena.step(agent, at)
	if code != api.OK || *word != v.write(old) {
		return false, code
	}
	*word = v.write(value)
	return true, api.OK
}

// Peek is the value at place at, for what is told of the words outside any agent: no step is counted.
func (v View[T]) Peek(at int) (T, api.Errno) {
	word, code := v.arena.word(at)
	if code != api.OK {
		var none T
		return none, code
	}
	return v.read(*word), api.OK
}

// Poke makes the word at place at stand for value, for what is laid out ahead of any agent: no step is counted.
func (v View[T]) Poke(at int, value T) api.Errno {
	word, code := v.arena.word(at)
	if code != api.OK {
		return code
	}
	*word = v.write(value)
	return api.OK
}
