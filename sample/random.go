package sample

import "wishbook/api"

// Small bounds, so that things of random racks often meet.
const (
	LastDay    = 24
	LastNumber = 9
	LastSize   = 6
	LastFoot   = 20
)

// Dice returns a number from 0 to n less 1.
type Dice func(n int) int

// Span returns some span from low to high.
func (d Dice) Span(low, high int) api.Span {
	one, other := low+d(high-low+1), low+d(high-low+1)
	return Span(min(one, other), max(one, other))
}

// Order returns the numbers from 0 to n less 1 in some order.
func (d Dice) Order(n int) []int {
	list := make([]int, n)
	for i := range list {
		k := d(i + 1)
		list[i] = list[k]
		list[k] = i
	}
	return list
}

// Issue returns some book of so many goods.
func (d Dice) Issue(goods int) api.BookIssue {
	b := api.BookIssue{Days: d.Span(0, LastDay)}
	b.Held = b.Days.Low + d(LastDay-b.Days.Low+1)
	numbers := d.Order(LastNumber)
	for k, good := range d.Order(goods)[:d(goods+1)] {
		if sizes := d.Sizes(); len(sizes) > 0 {
			b.Entries = append(b.Entries, Entry(numbers[k]+1, good, 1+d(1<<api.BookColours-1), sizes...))
		}
	}
	return b
}

// Sizes returns some sizes, or none.
func (d Dice) Sizes() []api.BookFit {
	var list []api.BookFit
	for size := 1; size <= LastSize; size++ {
		if d(2) == 0 {
			foot := d.Span(1, LastFoot)
			list = append(list, Fit(size, foot.Low, foot.High, 1+d(9)))
		}
	}
	return list
}

// Rack returns some valid rack.
func (d Dice) Rack() api.BookRack {
	r := api.BookRack{Goods: 1 + d(5)}
	for range 1 + d(api.BookIssues) {
		r.Issues = append(r.Issues, d.Issue(r.Goods))
	}
	return r
}
