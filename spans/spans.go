// Package spans calculates with spans of whole numbers (api.Span), for all layers.
package spans

import (
	"cmp"

	"wishbook/api"
)

// One is the span of a single number.
func One(n int) api.Span { return api.Span{Low: n, High: n} }

// Below is all numbers from 0 on that are less than n: those of n things.
func Below(n int) api.Span { return api.Span{Low: 0, High: n - 1} }

// Low is the low end of a span.
func Low(s api.Span) int { return s.Low }

// High is the high end of a span.
func High(s api.Span) int { return s.High }

// Has reports whether a number lies in a span.
func Has(s api.Span, n int) bool { return s.Low <= n && n <= s.High }

// IsWithin reports whether s is a span, and lies wholly in another one.
func IsWithin(limit, s api.Span) bool {
	return s.Low <= s.High && Has(limit, s.Low) && Has(limit, s.High)
}

// Meet reports whether two spans have a number in common.
func Meet(one, other api.Span) bool {
	return one.Low <= other.High && other.Low <= one.High
}

// Covers reports whether all numbers of part are in whole.
func Covers(whole, part api.Span) bool {
	return whole.Low <= part.Low && part.High <= whole.High
}

// Join is the span from the least number to the greatest one of two spans.
func Join(one, other api.Span) api.Span {
	return api.Span{Low: Least(one.Low, other.Low), High: Greatest(one.High, other.High)}
}

// Add is between what lies a number of one span and a number of another one together.
func Add(one, other api.Span) api.Span {
	return api.Span{Low: one.Low + other.Low, High: one.High + other.High}
}

// Count is how many numbers there are in a span that is valid.
func Count(s api.Span) int { return s.High - s.Low + 1 }

// Least is the least of several values.
func Least[T cmp.Ordered](first T, others ...T) T {
	for _, n := range others {
		first = min(first, n)
	}
	return first
}

// Greatest is the greatest of several values.
func Greatest[T cmp.Ordered](first T, others ...T) T {
	for _, n := range others {
		first = max(first, n)
	}
	return first
}
