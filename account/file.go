package account

import (
	"iter"

	"wishbook/api"
	"wishbook/book"
	"wishbook/spans"
)

// file is a file in the calculation.
type file struct{ api.AccountFile }

// events produces all events of a kind on some days.
func (f file) events(kind int, days api.Span) iter.Seq[api.AccountEvent] {
	return func(yield func(api.AccountEvent) bool) {
		for _, e := range f.Events {
			if e.Kind == kind && spans.Has(days, e.Day) && !yield(e) {
				return
			}
		}
	}
}

func (f file) orders() iter.Seq[api.AccountEvent] {
	return f.events(api.AccountOrder, limits[ofDays])
}

// cost returns what an order costs: nothing, if it has no lines.
func (f file) cost(order api.AccountEvent) int {
	sum, _ := book.Sum(f.Rack, order.Day, order.Lines)
	return sum
}

// place is which line: the number of its order, and its own number there.
type place struct{ order, line int }

// placeOf returns of which line pieces come back.
func placeOf(e api.AccountEvent) place { return place{e.Order, e.Line} }

func (p place) canBe() bool {
	return spans.Has(limits[ofNumbers], p.order) && spans.Has(spans.Below(api.BookLines), p.line)
}

// pieces is how many pieces of each line of an order came back.
type pieces [api.BookLines]int

// back returns how many pieces of each line of an order came back on some days.
func (f file) back(number int, days api.Span) pieces {
	var back pieces
	for e := range f.events(api.AccountReturn, days) {
		if e.Order == number {
			back[e.Line] += e.Many
		}
	}
	return back
}

// without returns an order with so many pieces of each line fewer. A line of which no pieces are left is none.
func without(order api.AccountEvent, back pieces) api.AccountEvent {
	list := make([]api.BookLine, 0, len(order.Lines))
	for line, l := range order.Lines {
		l.Many -= back[line]
		if l.Many > 0 {
			list = append(list, l)
		}
	}
	order.Lines = list[:len(list):len(list)]
	return order
}

// worth returns what it is worth that more pieces of an order came back than before.
func (f file) worth(order api.AccountEvent, before, now pieces) int {
	return f.cost(without(order, before)) - f.cost(without(order, now))
}

// asking is a line that is asked about.
type asking struct {
	file
	order api.AccountEvent
	line  place
}

// givenBack returns what the line gives back for all its returns.
func (a asking) givenBack() int {
	var back pieces
	for e := range a.events(api.AccountReturn, limits[ofDays]) {
		if placeOf(e) == a.line {
			back[e.Line] += e.Many
		}
	}
	return a.worth(a.order, pieces{}, back)
}
