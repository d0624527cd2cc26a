package chute

import (
	"iter"
	"slices"

	"wishbook/api"
	"wishbook/spans"
)

// boxes is how many boxes wait in each quarter.
type boxes [api.ChuteQuarters]int

// above returns how many boxes more than there can be wait in each quarter.
func (b boxes) above(wait int) boxes {
	var above boxes
	for quarter, many := range b {
		above[quarter] = spans.Greatest(0, many-wait)
	}
	return above
}

// with returns the boxes with one more.
func (b boxes) with(quarter int) boxes {
	b[quarter]++
	return b
}

// plans produces all plans, the first ones first, in which the box of each order waits in its quarter of first, or later. All of them are the same memory.
func (h house) plans(first []int) iter.Seq[[]int] {
	return func(yield func([]int) bool) {
		var give func(plan []int, waiting boxes) bool
		give = func(plan []int, waiting boxes) bool {
			order := len(plan)
			if order == len(h.Orders) {
				return yield(plan)
			}
		quarters:
			for quarter := range h.Orders[order].Due + 1 {
				if quarter < first[order] || waiting[quarter] == h.Wait {
					continue quarters
				}
				if !give(append(plan, quarter), waiting.with(quarter)) {
					return false
				}
			}
			return true
		}
		give(make([]int, 0, len(h.Orders)), boxes{})
	}
}

// best returns the plan in which the fewest slips may go by themselves, the first one of several; false, if there is no plan.
func (h house) best() ([]int, bool) {
	alone := h.alone()
	var best []int
	fewest := 0
	for plan := range h.plans(make([]int, len(h.Orders))) {
		many := 0
		for order, quarter := range plan {
			many += alone[order][quarter]
		}
		if best == nil || many < fewest {
			best, fewest = slices.Clone(plan), many
		}
	}
	return best, best != nil
}

// alone returns how many slips of each order may go by themselves if its box waits in each quarter.
func (h house) alone() [api.ChuteOrders][api.ChuteQuarters]int {
	var alone [api.ChuteOrders][api.ChuteQuarters]int
	for _, a := range h.arrivals() {
		for quarter := range api.ChuteQuarters {
			if h.isLate(perhaps, a, quarter) {
				alone[a.order][quarter]++
			}
		}
	}
	return alone
}

// enough returns how many boxes at once are the fewest with which no slip may go by itself; false, if as many as there can be are too few.
func (h house) enough() (int, bool) {
	ready := h.ready()
	for wait := limits[ofWaits].Low; wait <= limits[ofWaits].High; wait++ {
		h.Wait = wait
		// No slip may go by itself just if each box waits in a quarter in which its order is ready, or later.
		for range h.plans(ready) {
			return wait, true
		}
	}
	return 0, false
}

// planned is a plan that is asked about.
type planned struct {
	house
	plan []int
}

func (p planned) isPlan() bool {
	if len(p.plan) != len(p.Orders) {
		return false
	}
	var waiting boxes
	for order, quarter := range p.plan {
		if !spans.Has(api.Span{Low: 0, High: p.Orders[order].Due}, quarter) {
			return false
		}
		waiting = waiting.with(quarter)
	}
	return waiting.above(p.Wait) == boxes{}
}

// late returns all slips that go by themselves, surely or perhaps.
func (p planned) late(how int) []arrival {
	var list []arrival
	for _, a := range p.arrivals() {
		if p.isLate(how, a, p.plan[a.order]) {
			list = append(list, a)
		}
	}
	return list
}

// cost returns what the slips cost that go by themselves, surely or perhaps.
func (p planned) cost(how int) int { return len(p.late(how)) * p.Cost }

// boxing is a quarter of a plan that is asked about.
type boxing struct {
	planned
	quarter int
}

func (b boxing) isQuarter() bool { return spans.Has(spans.Below(api.ChuteQuarters), b.quarter) }

// boxed returns how many slips of the boxes that wait in this quarter surely are there, and how many more may be.
func (b boxing) boxed() (sure, more int) {
	for _, a := range b.arrivals() {
		switch {
		case b.plan[a.order] != b.quarter:
		case !b.isLate(perhaps, a, b.quarter):
			sure++
		case !b.isLate(surely, a, b.quarter):
			more++
		}
	}
	return sure, more
}
