package mark

import "iter"

// ring is a row of items that goes round in the room it has: what is taken off at its beginning is room for its end. It
// is never asked to hold more than it has room for.
type ring[T any] struct {
	items []T
	first int // where the item stands that came first
	count int
}

// ringOf is an empty one with room for so many.
func ringOf[T any](room int) ring[T] {
	return ring[T]{items: make([]T, room)}
}

// add puts the item behind all others.
func (r *ring[T]) add(item T) {
	r.items[(r.first+r.count)%len(r.items)] = item
	r.count++
}

// take takes the item off that came first: it, and whether there was one.
func (r *ring[T]) take() (T, bool) {
	if r.count == 0 {
		var none T
		return none, false
	}
	item := r.items[r.first]
	r.first = (r.first + 1) % len(r.items)
	r.count--
	return item, true
}

// taken is the items in the row in which they came; each is taken off as it is gone over.
func (r *ring[T]) taken() iter.Seq[T] {
	return func(yield func(T) bool) {
		for item, has := r.take(); has && yield(item); item, has = r.take() {
		}
	}
}

// placesOf is where the row holds the item, rising.
func placesOf[T comparable](row []T, item T) iter.Seq[int] {
	return func(yield func(int) bool) {
		for place, at := range row {
			if at == item && !yield(place) {
				return
			}
		}
	}
}
