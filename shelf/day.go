package shelf

import (
	"iter"
	"slices"

	"wishbook/api"
	"wishbook/spans"
)

// What changes a stock, or tells of it.
const (
	bySlip = iota
	byBringing
	byCount
)

// step is something that changes a stock, or tells of it, and by between how many pieces it does (a count: between what lies what is there).
type step struct {
	what int
	by   api.Span
}

func stepOf(m api.ShelfMove) step {
	if m.Back {
		return step{byBringing, m.By}
	}
	return step{bySlip, m.By}
}

// deeds is what each step makes of the numbers that can be there before it.
func deeds() [3]func(stock, api.Span) stock {
	return [...]func(stock, api.Span) stock{bySlip: stock.less, byBringing: stock.more, byCount: stock.only}
}

// undone is what each step makes of the numbers that can be there behind it: who goes back brings what a slip takes.
func undone() [3]func(stock, api.Span) stock {
	return [...]func(stock, api.Span) stock{bySlip: stock.more, byBringing: stock.less, byCount: stock.only}
}

// moment is the end of a day, and which deliveries came by then.
type moment struct {
	day  int
	came [api.ShelfDeliveries]bool
}

// link is one way in which a day goes on a shelf: from the end of the day before it to its own one, and all steps in between.
type link struct {
	from, to moment
	steps    []step
}

// then returns the link with more steps behind its own ones. Its list is copied, as other links go on from it, too.
func (l link) then(more ...step) link {
	l.steps = append(l.steps[:len(l.steps):len(l.steps)], more...)
	return l
}

// with produces the link with a delivery that is still to come, that comes on this day, and that came before: whatever can be.
func (l link) with(number int, d api.ShelfDelivery) iter.Seq[link] {
	return func(yield func(link) bool) {
		l := l // so that it is as it was when it is gone through again
		if l.to.day < d.Days.High && !yield(l) {
			return
		}
		l.to.came[number] = true
		if spans.Has(d.Days, l.to.day) && !yield(l.then(step{byBringing, d.By})) {
			return
		}
		l.from.came[number] = true
		if d.Days.Low < l.to.day {
			yield(l)
		}
	}
}

// forth returns what can be there at the end of a link, if what can be at its beginning is known.
func (l link) forth(s stock, room api.Span) stock {
	for _, x := range l.steps {
		s = deeds()[x.what](s, x.by).only(room)
	}
	return s
}

// back returns what can be there at the beginning of a link, if what can be at its end is known.
func (l link) back(s stock, room api.Span) stock {
	for _, x := range slices.Backward(l.steps) {
		s = undone()[x.what](s, x.by).only(room)
	}
	return s
}
