package frag

import "gneiss/arena"

// table is a row of small numbers in an arena, one a word.
type table[T ~int] struct {
	words arena.View[T]
	base  int
	size  int
}

// newTable is a table of so many numbers from 0 to most, each 0. A word that somebody else made none of these numbers
// is read as 0.
func newTable[T ~int](a *arena.Arena, base int, size int, most T) table[T] {
	read := func(word int) T {
		if word < 0 || word > int(most) {
			return 0
		}
		return T(word)
	}
	write := func(value T) int { return int(value) }
	t := table[T]{words: arena.ViewOf(a, read, write), base: base, size: size}
	for i := range size {
		t.words.Poke(base+i, 0)
	}
	return t
}

func (t table[T]) has(i int) bool {
	return i >= 0 && i < t.size
}

// at is number i, by no agent's step.
func (t table[T]) at(i int) T {
	value, _ := t.words.Peek(t.base + i)
	return value
}

// set makes number i value, by one step of the agent.
func (t table[T]) set(agent int, i int, value T) {
	t.words.Store(agent, t.base+i, value)
}
