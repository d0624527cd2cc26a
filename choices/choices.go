// Package choices produces the ways to choose some things of a list, for all layers.
package choices

import "iter"

// Of produces all lists of so many things of a list, each in its order, the first things first. Each one is new memory.
func Of[T any](list []T, many int) iter.Seq[[]T] {
	return func(yield func([]T) bool) {
		var choose func(chosen, rest []T) bool
		choose = func(chosen, rest []T) bool {
			if len(chosen) == many {
				return yield(chosen)
			}
			for i, thing := range rest {
				// Without room behind it the list is copied, so that no other choice has the same memory.
				if !choose(append(chosen[:len(chosen):len(chosen)], thing), rest[i+1:]) {
					return false
				}
			}
			return true
		}
		choose(nil, list)
	}
}
