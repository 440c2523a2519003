package sched

// feed gives its items one by one; taken is how many are gone.
type feed[T any] struct {
	items []T
	taken int
}

// feedOf is a feed of what read makes of each number; it keeps none of the memory that it is handed.
func feedOf[T any](numbers []int, read func(number int) T) feed[T] {
	items := make([]T, len(numbers))
	for i, number := range numbers {
		items[i] = read(number)
	}
	return feed[T]{items: items}
}

// next takes the next item, and tells whether there was one.
func (f *feed[T]) next() (T, bool) {
	over := make(chan struct{})
	if f.taken == len(f.items) {
		close(over)
	}
	select {
	case <-over:
		var none T
		return none, false
	default:
	}
	item := f.items[f.taken]
	f.taken++
	return item, true
}
