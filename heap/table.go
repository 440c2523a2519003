package heap

// table is a row of items, numbered from 1 on. The number of one that was removed is given again, so that the numbers
// stay as small as the most items that were there at one time.
type table[T any] struct {
	places []place[T]
	spare  []int // the numbers that stand for no item
}

type place[T any] struct {
	item  T
	taken bool
}

// add is the number that the item has from now on.
func (t *table[T]) add(item T) int {
	if len(t.spare) == 0 {
		t.places = append(t.places, place[T]{item: item, taken: true})
		return len(t.places)
	}
	last := len(t.spare) - 1
	number := t.spare[last]
	t.spare = t.spare[:last]
	t.places[number-1] = place[T]{item: item, taken: true}
	return number
}

// find is the item of that number, and whether there is one.
func (t *table[T]) find(number int) (T, bool) {
	if number < 1 || number > len(t.places) {
		var none T
		return none, false
	}
	at := t.places[number-1]
	return at.item, at.taken
}

func (t *table[T]) remove(number int) {
	if _, has := t.find(number); has {
		t.places[number-1] = place[T]{}
		t.spare = append(t.spare, number)
	}
}

// numbers is those of all items, rising.
func (t *table[T]) numbers() []int {
	var numbers []int
	for i, at := range t.places {
		if at.taken {
			numbers = append(numbers, i+1)
		}
	}
	return numbers
}
