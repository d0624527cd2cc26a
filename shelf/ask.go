package shelf

import (
	"slices"

	"wishbook/api"
	"wishbook/spans"
)

// evening is the end of a day at a shelf that is asked about.
type evening struct {
	place
	day int
}

func eveningOf(b api.ShelfBook, shelf, day int) evening {
	return evening{book{b}.at(shelf), day}
}

func (e evening) isThere() bool { return e.hasShelf(e.shelf) && e.hasDay(e.day) }

func (e evening) stock() stock { return e.stocks()[e.day] }

// later returns what can be there on this day, or on any day behind it.
func (e evening) later() stock {
	var all stock
	for day, s := range e.stocks() {
		if day >= e.day {
			all = all.or(s)
		}
	}
	return all
}

// past returns what can have been there on all days, if it is so many pieces on this day.
// What was chosen for a day is taken for counted, so that the days behind it are chosen to go with it.
func (e evening) past(pieces int) []int {
	known := e.counted(e.day, pieces)
	list := make([]int, 0, e.Days)
	for day := range e.Days {
		chosen := known.stocks()[day].span().Low
		list = append(list, chosen)
		known = known.counted(day, chosen)
	}
	return list[:len(list):len(list)]
}

// counted returns the shelf with one count more, which cannot be wrong.
func (p place) counted(day, pieces int) place {
	return p.with(api.ShelfCount{Day: day, Shelf: p.shelf, Read: pieces}).at(p.shelf)
}

// coming is a delivery that is asked about.
type coming struct {
	book
	delivery int
}

func (c coming) isThere() bool { return spans.Has(spans.Below(len(c.Deliveries)), c.delivery) }

// can reports whether it can have come on a day.
func (c coming) can(day int) bool {
	c.Deliveries = slices.Clone(c.Deliveries)
	c.Deliveries[c.delivery].Days = spans.One(day)
	return c.canBeTrue()
}

// moving is a slip, or a return, that is asked about.
type moving struct {
	book
	move int
}

func (m moving) isThere() bool { return spans.Has(spans.Below(len(m.Moves)), m.move) }

// can reports whether it can have been so many pieces.
func (m moving) can(pieces int) bool {
	m.Moves = slices.Clone(m.Moves)
	m.Moves[m.move].By = spans.One(pieces)
	return m.canBeTrue()
}

// end is an end of spans, and the way from there to the other one.
type end struct {
	of     func(api.Span) int
	inward int
}

// nearest returns the number of a span that is nearest to its end, of those that can be; there must be one.
func (e end) nearest(s api.Span, can func(n int) bool) int {
	n := e.of(s)
	for spans.Has(s, n) && !can(n) {
		n += e.inward
	}
	return n
}

// between returns the least and the greatest number of a span that can be.
func between(s api.Span, can func(n int) bool) api.Span {
	low, high := end{spans.Low, 1}, end{spans.High, -1}
	return api.Span{Low: low.nearest(s, can), High: high.nearest(s, can)}
}

// among returns all numbers of a span that can be.
func among(s api.Span, can func(n int) bool) []int {
	var list []int
	for n := s.Low; n <= s.High; n++ {
		if can(n) {
			list = append(list, n)
		}
	}
	return list[:len(list):len(list)]
}
