package refs

import (
	"iter"
	"slices"
)

// queue is a row of items: they come in at its end and go at its beginning.
type queue[T any] struct {
	items []T
}

// add puts the items behind all others, in their row.
func (q *queue[T]) add(items ...T) {
	q.items = append(q.items, items...)
}

// first is the item that stands in it longest, and whether there is one.
func (q *queue[T]) first() (T, bool) {
	if len(q.items) == 0 {
		var none T
		return none, false
	}
	return q.items[0], true
}

// drop takes the first item off, if there is one.
func (q *queue[T]) drop() {
	q.items = slices.Delete(q.items, 0, min(1, len(q.items)))
}

// all is the items in their row.
func (q *queue[T]) all() iter.Seq[T] {
	return slices.Values(q.items)
}
