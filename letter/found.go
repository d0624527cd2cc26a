package letter

import "slices"

// found is different things, and which of two of them comes first.
type found[T comparable] struct {
	known   map[T]bool
	compare func(one, other T) int
}

// gather returns what is told of all that a letter can mean.
func gather[T comparable](l letter, told func(meaning) T, compare func(one, other T) int) found[T] {
	all := found[T]{map[T]bool{}, compare}
	for m := range l.meanings() {
		all.known[told(m)] = true
	}
	return all
}

func (f found[T]) sorted() []T {
	list := make([]T, 0, len(f.known))
	for thing := range f.known {
		list = append(list, thing)
	}
	slices.SortFunc(list, f.compare)
	return list[:len(list):len(list)]
}

// fold joins what is told of all that a letter can mean; false, if there is nothing.
func fold[T any](l letter, told func(meaning) T, join func(one, other T) T) (T, bool) {
	var all T
	ok := false
	for m := range l.meanings() {
		if !ok {
			all, ok = told(m), true
		}
		all = join(all, told(m))
	}
	return all, ok
}
