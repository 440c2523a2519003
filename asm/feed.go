package asm

// A feed hands out items one by one; at is how many it has handed out.
type feed[T any] struct {
	items []T
	at    int
}

// next hands out the next item, if there is one and it is wanted.
func (f *feed[T]) next(isWanted func(T) bool) (T, bool) {
	if f.at == len(f.items) || !isWanted(f.items[f.at]) {
		var nothing T
		return nothing, false
	}
	f.at++
	return f.items[f.at-1], true
}

func (f *feed[T]) isOver() bool {
	return f.at == len(f.items)
}
