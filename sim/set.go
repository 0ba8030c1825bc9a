package sim

// set is some names, tags or rows.
type set[T comparable] map[T]struct{}

func setOf[T comparable](items []T) set[T] {
	s := make(set[T], len(items))
	for _, item := range items {
		s.add(item)
	}
	return s
}

// add tells whether the item is new to the set.
func (s set[T]) add(item T) bool {
	if s.has(item) {
		return false
	}
	s[item] = struct{}{}
	return true
}

func (s set[T]) has(item T) bool {
	_, there := s[item]
	return there
}
