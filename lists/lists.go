// Package lists asks about lists of things, for all layers.
package lists

import (
	"slices"

	"wishbook/api"
	"wishbook/spans"
)

// Are reports whether there are as many things as there can be, and each one is what it must be.
func Are[T any](many api.Span, list []T, is func(T) bool) bool {
	return spans.Has(many, len(list)) && !slices.ContainsFunc(list, func(thing T) bool { return !is(thing) })
}
