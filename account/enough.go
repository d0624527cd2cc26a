package account

import (
	"slices"

	"wishbook/api"
	"wishbook/lists"
	"wishbook/spans"
)

// keeping is on which days there shall be no fee. What keeps all fees away is paid on the first one.
type keeping struct {
	file
	days api.Span
}

// enough returns the least number of cents that keeps all fees away. As more of them never cause a fee, half of what can be is left out each time.
func (k keeping) enough() int {
	var least func(few, enough int) int
	least = func(few, enough int) int {
		if few == enough {
			return enough
		}
		middle := (few + enough) / 2
		if k.isEnough(middle) {
			return least(few, middle)
		}
		return least(middle+1, enough)
	}
	return least(0, lists.Sum(k.most, slices.Collect(k.orders())...))
}

// most returns what an order costs with all fees that it can cost.
func (f file) most(order api.AccountEvent) int { return f.cost(order) + f.Fee*order.Parts }

// isEnough reports whether there is no fee if so much more is paid.
func (k keeping) isEnough(cents int) bool {
	many := len(k.Events)
	more := k.file
	more.Events = append(k.Events[:many:many], api.AccountEvent{Day: k.days.Low, Kind: api.AccountPaid, Cents: cents})
	fees := more.on(k.days.High).fees
	return !slices.ContainsFunc(fees, func(day int) bool { return spans.Has(k.days, day) })
}
