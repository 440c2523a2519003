package heap

import (
	"cmp"
	"slices"
)

// table is a row of items, numbered from 1 on as they come. No number is given twice, so that one stands for its item
// alone, even when that is gone.
type table[T any] struct {
	rows []numbered[T] // their numbers rise
	last int           // the number that was given last
}

type numbered[T any] struct {
	number int
	item   T
}

// add is the number that the item has from now on.
func (t *table[T]) add(item T) int {
	t.last++
	t.rows = append(t.rows, numbered[T]{number: t.last, item: item})
	return t.last
}

// find is the item of that number, and whether there is one.
func (t *table[T]) find(number int) (T, bool) {
	at, has := t.place(number)
	if !has {
		var none T
		return none, false
	}
	return t.rows[at].item, true
}

func (t *table[T]) remove(number int) {
	if at, has := t.place(number); has {
		t.rows = slices.Delete(t.rows, at, at+1)
	}
}

// numbers is those of all items, rising.
func (t *table[T]) numbers() []int {
	var numbers []int
	for _, row := range t.rows {
		numbers = append(numbers, row.number)
	}
	return numbers
}

// place is where the item of that number stands, and whether it does.
func (t *table[T]) place(number int) (int, bool) {
	return slices.BinarySearchFunc(t.rows, number, func(row numbered[T], number int) int {
		return cmp.Compare(row.number, number)
	})
}
