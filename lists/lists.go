// Package lists asks about lists of things, and adds up what they are, for all layers.
package lists

import (
	"slices"

	"wishbook/api"
	"wishbook/spans"
)

// Are reports whether there are as many things as there can be, and each one is what it must be.
func Are[T any](many api.Span, list []T, is func(T) bool) bool {
	return spans.Has(many, len(list)) && !slices.ContainsFunc(list, func(thing T) bool { return !is(thing) })
}

// Sum is what all things are together, if it is told what each one is.
func Sum[T any](each func(T) int, things ...T) int {
	sum := 0
	for _, thing := range things {
		sum += each(thing)
	}
	return sum
}

// AreIncreasing reports whether each number is greater than the one before it.
func AreIncreasing(numbers []int) bool {
	for i, n := range numbers {
		if i > 0 && n <= numbers[i-1] {
			return false
		}
	}
	return true
}

// Where returns the numbers of all things that are so, increasing.
func Where(are []bool) []int {
	var numbers []int
	for n, is := range are {
		if is {
			numbers = append(numbers, n)
		}
	}
	return numbers[:len(numbers):len(numbers)]
}
