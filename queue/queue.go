// Package queue: rows in which what came first goes first.
package queue

import (
	"iter"
	"slices"
)

// Queue is a row of items: they come in at its end and go at its beginning.
type Queue[T any] struct {
	items []T
}

// Add puts the items behind all others, in their row.
func (q *Queue[T]) Add(items ...T) {
	q.items = append(q.items, items...)
}

// First is the item that stands in it longest, and whether there is one.
func (q *Queue[T]) First() (T, bool) {
	if len(q.items) == 0 {
		var none T
		return none, false
	}
	return q.items[0], true
}

// Drop takes the first item off, if there is one.
func (q *Queue[T]) Drop() {
	q.items = slices.Delete(q.items, 0, min(1, len(q.items)))
}

// Take takes the item off that stands in it longest of those that is tells: it, and whether there was one.
func (q *Queue[T]) Take(is func(item T) bool) (T, bool) {
	place := slices.IndexFunc(q.items, is)
	if place < 0 {
		var none T
		return none, false
	}
	item := q.items[place]
	q.items = slices.Delete(q.items, place, place+1)
	return item, true
}

// Copy is a row of the same items, which goes on by itself.
func (q *Queue[T]) Copy() Queue[T] {
	return Queue[T]{slices.Clone(q.items)}
}

// All is the items in their row.
func (q *Queue[T]) All() iter.Seq[T] {
	return slices.Values(q.items)
}
