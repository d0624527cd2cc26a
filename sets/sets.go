// Package sets calculates with sets of small numbers, for all layers.
package sets

import (
	"iter"
	"math/bits"
)

// Set is some numbers from 0 on: it has the number k just if its bit k is 1.
type Set int

// Of is the set of some numbers.
func Of(numbers ...int) Set {
	var s Set
	for _, n := range numbers {
		s = s.With(n)
	}
	return s
}

// Below is all numbers from 0 on that are less than n: those of n things.
func Below(n int) Set { return 1<<n - 1 }

// Has reports whether a number is in the set.
func (s Set) Has(n int) bool { return s>>n&1 == 1 }

// With returns the set with one number more.
func (s Set) With(n int) Set { return s | 1<<n }

// Without returns the set without the numbers of another one.
func (s Set) Without(other Set) Set { return s &^ other }

// Count returns how many numbers the set has.
func (s Set) Count() int { return bits.OnesCount(uint(s)) }

// Members returns the numbers of the set, increasing.
func (s Set) Members() []int {
	var list []int
	for n := 0; s>>n > 0; n++ {
		if s.Has(n) {
			list = append(list, n)
		}
	}
	return list[:len(list):len(list)]
}

// Parts produces all sets that have only numbers of this one, and one at least.
func (s Set) Parts() iter.Seq[Set] {
	return func(yield func(Set) bool) {
		for n := range s {
			part := n + 1
			if part.Without(s) == 0 && !yield(part) {
				return
			}
		}
	}
}
