package chute

import (
	"wishbook/api"
	"wishbook/lists"
	"wishbook/slip"
	"wishbook/spans"
)

// The rows of limits.
const (
	ofFloors = iota
	ofBelts
	ofQuarters
	ofWaits
	ofCosts
	ofOrders
	ofDues
)

// limits is between what lies each number that is given, or how many things there are.
var limits = [...]api.Span{
	ofFloors:   {Low: 1, High: api.ChuteFloors},
	ofBelts:    {Low: 0, High: api.ChuteBelt},
	ofQuarters: {Low: 1, High: api.ChuteLong}, // how many seconds a quarter has
	ofWaits:    {Low: 1, High: api.ChuteOrders},
	ofCosts:    {Low: 0, High: api.ChuteCost},
	ofOrders:   {Low: 1, High: api.ChuteOrders},
	ofDues:     {Low: 0, High: api.ChuteQuarters - 1},
}

func (h house) isValid() bool {
	return h.areFloors() &&
		spans.Has(limits[ofQuarters], h.Quarter) &&
		spans.Has(limits[ofWaits], h.Wait) &&
		spans.Has(limits[ofCosts], h.Cost) &&
		lists.Are(limits[ofOrders], h.Orders, h.isOrder) &&
		h.areOrdered()
}

func (h house) areFloors() bool {
	if !spans.Has(limits[ofFloors], len(h.Floors)) || len(h.Rosters) != len(h.Floors) || len(h.Belts) != len(h.Floors) {
		return false
	}
	for floor, f := range h.Floors {
		// Done checks the floor, too.
		if _, e := slip.Done(f, h.Rosters[floor]); e != api.OK || !spans.IsWithin(limits[ofBelts], h.Belts[floor]) {
			return false
		}
	}
	return true
}

func (h house) isOrder(o api.ChuteOrder) bool {
	for _, s := range o.Slips {
		if !h.hasSlip(pair{s[0], s[1]}) {
			return false
		}
	}
	return spans.Has(limits[ofDues], o.Due)
}

func (h house) hasSlip(p pair) bool {
	return spans.Has(spans.Below(len(h.Floors)), p.floor) && spans.Has(spans.Below(len(h.Floors[p.floor].Slips)), p.slip)
}

// areOrdered reports whether each slip is in just one of all orders, once: as many are ordered as there are, and no two are the same.
func (h house) areOrdered() bool {
	slips, ordered := 0, 0
	for _, f := range h.Floors {
		slips += len(f.Slips)
	}
	for _, o := range h.Orders {
		ordered += len(o.Slips)
	}
	return ordered == slips && len(h.orders()) == slips
}
