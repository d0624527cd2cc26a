package shelf

import (
	"iter"
	"slices"

	"wishbook/api"
	"wishbook/spans"
)

// stock is which numbers of pieces can be on a shelf.
type stock [api.ShelfRoom + 1]bool

// stockOf returns a stock of all numbers of a span.
func stockOf(s api.Span) stock {
	var all stock
	for n := range all {
		all[n] = spans.Has(s, n)
	}
	return all
}

func (s stock) has(n int) bool {
	return 0 <= n && n < len(s) && s[n]
}

// numbers produces all numbers of pieces that can be there, the least ones first.
func (s stock) numbers() iter.Seq[int] {
	return func(yield func(int) bool) {
		for n, can := range s {
			if can && !yield(n) {
				return
			}
		}
	}
}

// span returns the least and the greatest number.
func (s stock) span() api.Span {
	all := slices.Collect(s.numbers())
	return api.Span{Low: spans.Least(api.ShelfRoom, all...), High: spans.Greatest(0, all...)}
}

// more returns what can be there when pieces were brought.
func (s stock) more(by api.Span) stock {
	var now stock
	for n := range s.numbers() {
		for many := n + by.Low; many < len(now) && many <= n+by.High; many++ {
			now[many] = true
		}
	}
	return now
}

// less returns what can be there when pieces were taken.
func (s stock) less(by api.Span) stock {
	var now stock
	for n := range s.numbers() {
		for many := spans.Greatest(0, n-by.High); many <= n-by.Low; many++ {
			now[many] = true
		}
	}
	return now
}

// only returns what can be there if it lies in a span.
func (s stock) only(within api.Span) stock {
	for n := range s {
		s[n] = s[n] && spans.Has(within, n)
	}
	return s
}

func (s stock) and(other stock) stock {
	for n := range s {
		s[n] = s[n] && other[n]
	}
	return s
}

func (s stock) or(other stock) stock {
	for n := range s {
		s[n] = s[n] || other[n]
	}
	return s
}
