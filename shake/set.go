package shake

// set holds items, each at most once.
type set[T comparable] map[T]struct{}

// setOf is a new set of these items.
func setOf[T comparable](items ...T) set[T] {
	s := make(set[T], len(items))
	for _, item := range items {
		s.add(item)
	}
	return s
}

func (s set[T]) add(item T) {
	s[item] = struct{}{}
}

func (s set[T]) has(item T) bool {
	_, is := s[item]
	return is
}
