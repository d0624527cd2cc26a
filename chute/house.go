package chute

import (
	"wishbook/api"
	"wishbook/slip"
	"wishbook/spans"
)

// house is a house in the calculation.
type house struct{ api.ChuteHouse }

// check returns the errors that functions share. Some ask about a thing, which must be there.
func (h house) check(isThere ...func() bool) api.Errno {
	if !h.isValid() {
		return api.ErrChute
	}
	for _, is := range isThere {
		if !is() {
			return api.ErrChuteAsk
		}
	}
	return api.OK
}

// pair is which slip: the number of its floor, and its own number there.
type pair struct{ floor, slip int }

// arrival is between what lies the second in which a slip arrives, and of which order it is.
type arrival struct {
	pair
	seconds api.Span
	order   int
}

// arrivals returns all slips, in the order of the floors, then of the slips.
func (h house) arrivals() []arrival {
	orders := h.orders()
	var list []arrival
	for floor, f := range h.Floors {
		done, _ := slip.Done(f, h.Rosters[floor])
		for number, seconds := range done {
			p := pair{floor, number}
			list = append(list, arrival{p, spans.Add(seconds, h.Belts[floor]), orders[p]})
		}
	}
	return list
}

// orders returns of which order each slip is.
func (h house) orders() map[pair]int {
	orders := map[pair]int{}
	for order, o := range h.Orders {
		for _, s := range o.Slips {
			orders[pair{s[0], s[1]}] = order
		}
	}
	return orders
}

// ready returns for each order the first quarter in which all its slips surely are in the box.
func (h house) ready() []int {
	list := make([]int, len(h.Orders))
	for _, a := range h.arrivals() {
		list[a.order] = spans.Greatest(list[a.order], a.seconds.High/h.Quarter)
	}
	return list
}

// ordering is an order that is asked about.
type ordering struct {
	house
	order int
}

func (o ordering) isThere() bool { return spans.Has(spans.Below(len(o.Orders)), o.order) }

// arriving is a slip that is asked about.
type arriving struct {
	house
	slip pair
}

func (a arriving) isThere() bool { return a.hasSlip(a.slip) }

func (a arriving) seconds() api.Span {
	for _, arrival := range a.arrivals() {
		if arrival.pair == a.slip {
			return arrival.seconds
		}
	}
	return api.Span{}
}
