package account

import (
	"wishbook/api"
	"wishbook/book"
	"wishbook/lists"
	"wishbook/spans"
)

// The rows of limits.
const (
	ofGraces = iota
	ofFees
	ofEvents
	ofDays
	ofNumbers
	ofParts
	ofLines
	ofPieces
	ofCents
)

// limits is between what lies each number that is given, or how many things there are.
var limits = [...]api.Span{
	ofGraces:  {Low: 0, High: api.AccountGrace},
	ofFees:    {Low: 0, High: api.AccountFee},
	ofEvents:  {Low: 0, High: api.AccountEvents},
	ofDays:    {Low: 0, High: api.AccountDay},
	ofNumbers: {Low: 1, High: api.AccountNumber},
	ofParts:   {Low: 1, High: api.AccountParts},
	ofLines:   {Low: 1, High: api.BookLines},
	ofPieces:  {Low: 1, High: api.BookMany},
	ofCents:   {Low: 1, High: api.AccountCents},
}

func (f file) isValid() bool {
	return book.Check(f.Rack) == api.OK &&
		spans.Has(limits[ofGraces], f.Grace) &&
		spans.Has(limits[ofFees], f.Fee) &&
		lists.Are(limits[ofEvents], f.Events, f.isEvent) &&
		f.wasOrdered()
}

func (f file) isEvent(e api.AccountEvent) bool {
	is, ok := kinds()[e.Kind]
	return ok && spans.Has(limits[ofDays], e.Day) && is(f, e)
}

// kinds is what must be so of the events of each kind.
func kinds() map[int]func(file, api.AccountEvent) bool {
	return map[int]func(file, api.AccountEvent) bool{
		api.AccountOrder:  file.isOrder,
		api.AccountPaid:   file.isPayment,
		api.AccountReturn: file.isReturn,
	}
}

func (f file) isOrder(e api.AccountEvent) bool {
	return spans.Has(limits[ofNumbers], e.Order) &&
		f.isTheOnly(e.Order) &&
		spans.Has(limits[ofParts], e.Parts) &&
		spans.Has(limits[ofLines], len(e.Lines)) &&
		f.hasSum(e)
}

// isTheOnly reports whether no second order has a number.
func (f file) isTheOnly(number int) bool {
	many := 0
	for o := range f.orders() {
		if o.Order == number {
			many++
		}
	}
	return many <= 1
}

func (f file) hasSum(order api.AccountEvent) bool {
	_, e := book.Sum(f.Rack, order.Day, order.Lines)
	return e == api.OK
}

func (f file) isPayment(e api.AccountEvent) bool { return spans.Has(limits[ofCents], e.Cents) }

func (f file) isReturn(e api.AccountEvent) bool {
	return spans.Has(limits[ofPieces], e.Many) && f.isOrdered(e.Order, e.Day)
}

// isOrdered reports whether an order was written on a day, or before it.
func (f file) isOrdered(number, day int) bool {
	for o := range f.events(api.AccountOrder, spans.Below(day+1)) {
		if o.Order == number {
			return true
		}
	}
	return false
}

// wasOrdered reports whether all pieces that come back were ordered. Of a line that there is not none were.
func (f file) wasOrdered() bool {
	left := map[place]int{}
	for o := range f.orders() {
		for line, l := range o.Lines {
			left[place{o.Order, line}] = l.Many
		}
	}
	for e := range f.events(api.AccountReturn, limits[ofDays]) {
		left[placeOf(e)] -= e.Many
		if left[placeOf(e)] < 0 {
			return false
		}
	}
	return true
}
