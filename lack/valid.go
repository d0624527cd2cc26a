package lack

import (
	"wishbook/api"
	"wishbook/lists"
	"wishbook/spans"
)

// The rows of limits.
const (
	ofGoods = iota
	ofStocks
	ofLines
	ofOrders
	ofPieces
	ofUntils
	ofDeliveries
	ofDays
	ofBrought
)

// limits is between what lies each number that is given, or how many things there are.
var limits = [...]api.Span{
	ofGoods:      {Low: 1, High: api.LackGoods},
	ofStocks:     {Low: 0, High: api.LackStock},
	ofLines:      {Low: 1, High: api.LackLines},
	ofOrders:     {Low: 0, High: lastOrder},
	ofPieces:     {Low: 1, High: api.LackMany},
	ofUntils:     {Low: 0, High: api.LackDays},
	ofDeliveries: {Low: 0, High: api.LackDeliveries},
	ofDays:       {Low: 1, High: api.LackDays},
	ofBrought:    {Low: 0, High: mostBrought},
}

// What api has no constants for.
const (
	lastOrder   = 9  // the greatest number of an order
	mostBrought = 50 // pieces of a delivery
	none        = -1 // stands for a good where none may be sent instead
)

func (b book) isValid() bool {
	return lists.Are(limits[ofGoods], b.Stock, isStock) &&
		lists.Are(limits[ofLines], b.Lines, b.isLine) &&
		lists.Are(limits[ofDeliveries], b.Deliveries, b.isDelivery)
}

func isStock(many int) bool { return spans.Has(limits[ofStocks], many) }

func (b book) isLine(l api.LackLine) bool {
	return spans.Has(limits[ofOrders], l.Order) &&
		b.hasGood(l.Good) &&
		spans.Has(limits[ofPieces], l.Many) &&
		spans.Has(limits[ofUntils], l.Until) &&
		(l.Instead == none || b.hasGood(l.Instead) && l.Instead != l.Good)
}

func (b book) isDelivery(d api.LackDelivery) bool {
	return b.hasGood(d.Good) &&
		spans.IsWithin(limits[ofDays], d.Days) &&
		spans.IsWithin(limits[ofBrought], d.By)
}

func (b book) hasGood(number int) bool { return spans.Has(spans.Below(len(b.Stock)), number) }
