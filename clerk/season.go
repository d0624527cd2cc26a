package clerk

import (
	"cmp"
	"slices"

	"wishbook/api"
)

// season is what a clerk has. No list of it is ever changed, so that a copy of it is not, either, when the other one goes on.
type season struct {
	setup   setup
	day     int
	lists   [api.ClerkCustomers][]api.BookLine
	events  [api.ClerkCustomers][]api.AccountEvent
	parcels []api.ClaimParcel
	boxes   []api.ClaimBox
	journal []string
}

// with returns a list with one thing more. Without room behind it the list is copied.
func with[T any](list []T, thing T) []T {
	many := len(list)
	return append(list[:many:many], thing)
}

// tally is how many events each customer has.
type tally [api.ClerkCustomers]int

func (s season) tally() tally {
	var many tally
	for who, events := range s.events {
		many[who] = len(events)
	}
	return many
}

// ordered returns how many orders there were: as they are numbered from 1 on, the greatest number that an event names.
func (s season) ordered() int {
	if s.tally() == (tally{}) {
		return 0 // there is no event that names the greatest one
	}
	last := slices.MaxFunc(slices.Concat(s.events[:]...), func(one, other api.AccountEvent) int {
		return cmp.Compare(one.Order, other.Order)
	})
	return last.Order
}

// left returns how many pieces of a line of a customer's order did not come back yet; false, if there is no such line.
func (s season) left(customer, order, line int) (int, bool) {
	left, is := 0, false
	for _, e := range s.events[customer] {
		switch {
		case e.Kind == api.AccountOrder && e.Order == order && line < len(e.Lines):
			left, is = e.Lines[line].Many, true
		case e.Kind == api.AccountReturn && e.Order == order && e.Line == line:
			left -= e.Many
		}
	}
	return left, is
}
