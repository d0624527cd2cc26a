package chute_test

import (
	"slices"
	"testing"

	"wishbook/api"
	"wishbook/chute"
	"wishbook/sample"
)

// question is what is asked about a house.
type question struct {
	floor, slip, order, quarter int
	plan                        []int
}

// answers are what all functions return of a house.
type answers struct {
	check         api.Errno
	arrives, cost api.Span
	ready, boxes  int
	is            bool
	alone         [][2]int
	plan          []int
	boxed         [2]int
	errnos        errnos
}

// errnos are the errors of all functions but Check.
type errnos struct{ arrives, ready, is, alone, cost, plan, boxes, boxed api.Errno }

func askAll(h api.ChuteHouse, q question) answers {
	var a answers
	a.check = chute.Check(h)
	a.arrives, a.errnos.arrives = chute.Arrives(h, q.floor, q.slip)
	a.ready, a.errnos.ready = chute.Ready(h, q.order)
	a.is, a.errnos.is = chute.IsPlan(h, q.plan)
	a.alone, a.errnos.alone = chute.Alone(h, q.plan)
	a.cost, a.errnos.cost = chute.Cost(h, q.plan)
	a.plan, a.errnos.plan = chute.Plan(h)
	a.boxes, a.errnos.boxes = chute.Boxes(h)
	a.boxed[0], a.boxed[1], a.errnos.boxed = chute.Boxed(h, q.plan, q.quarter)
	return a
}

// areZero reports whether with each error the other results are zero.
func (a answers) areZero() bool {
	e := a.errnos
	return (e.arrives == api.OK || a.arrives == api.Span{}) && (e.ready == api.OK || a.ready == 0) && (e.is == api.OK || !a.is) &&
		(e.alone == api.OK || len(a.alone) == 0) && (e.cost == api.OK || a.cost == api.Span{}) && (e.plan == api.OK || len(a.plan) == 0) &&
		(e.boxes == api.OK || a.boxes == 0) && (e.boxed == api.OK || a.boxed == [2]int{})
}

// change makes another house of the example.
type change struct {
	name string
	do   func(h *api.ChuteHouse)
}

func changed(do func(h *api.ChuteHouse)) api.ChuteHouse {
	h := example()
	do(&h)
	return h
}

func orders(list ...api.ChuteOrder) func(h *api.ChuteHouse) {
	return func(h *api.ChuteHouse) { h.Orders = list }
}

func lastOrder(o api.ChuteOrder) func(h *api.ChuteHouse) {
	return func(h *api.ChuteHouse) { h.Orders[3] = o }
}

func firstRoster(lists ...[]int) func(h *api.ChuteHouse) {
	return func(h *api.ChuteHouse) { h.Rosters[0] = lists }
}

func lastBelt(low, high int) func(h *api.ChuteHouse) {
	return func(h *api.ChuteHouse) { h.Belts[1] = span(low, high) }
}

func numbers(quarter, wait, cost int) func(h *api.ChuteHouse) {
	return func(h *api.ChuteHouse) { h.Quarter, h.Wait, h.Cost = quarter, wait, cost }
}

func wrongFloors() []change {
	return []change{
		{"nothing", func(h *api.ChuteHouse) { *h = api.ChuteHouse{} }},
		{"no floors", func(h *api.ChuteHouse) {
			h.Floors, h.Rosters, h.Belts, h.Orders = nil, nil, nil, []api.ChuteOrder{order(0)}
		}},
		{"4 floors", func(h *api.ChuteHouse) {
			*h = largest()
			h.Floors, h.Rosters, h.Belts = append(h.Floors, floorWithout()), append(h.Rosters, roster(nil)), append(h.Belts, span(0, 0))
		}},
		{"a wrong floor", func(h *api.ChuteHouse) { h.Floors[0].Carry = 0 }},
		{"a wrong last floor", func(h *api.ChuteHouse) { h.Floors[1].Step.High = 11 }},
		{"a wrong slip", func(h *api.ChuteHouse) { h.Floors[1].Slips[1].Until = -1 }},
		{"a roster less", func(h *api.ChuteHouse) { h.Rosters = h.Rosters[:1] }},
		{"a roster more", func(h *api.ChuteHouse) { h.Rosters = append(h.Rosters, roster(nil)) }},
		{"no rosters", func(h *api.ChuteHouse) { h.Rosters = nil }},
		{"a roster without pickers", firstRoster()},
		{"a roster of 6 pickers", firstRoster(list(2, 1), list(0, 3), nil, nil, nil, nil)},
		{"a slip that no picker has", firstRoster(list(2, 1), list(0))},
		{"a slip that two pickers have", firstRoster(list(2, 1), list(0, 3, 2))},
		{"a slip that a picker has twice", firstRoster(list(2, 1, 2), list(0, 3))},
		{"a slip of a roster that there is not", firstRoster(list(2, 1), list(0, 4))},
		{"the slip -1 of a roster", firstRoster(list(2, 1, -1), list(0, 3))},
		{"the rosters of one another", func(h *api.ChuteHouse) { slices.Reverse(h.Rosters) }},
		{"a belt less", func(h *api.ChuteHouse) { h.Belts = h.Belts[:1] }},
		{"a belt more", func(h *api.ChuteHouse) { h.Belts = append(h.Belts, span(0, 0)) }},
		{"no belts", func(h *api.ChuteHouse) { h.Belts = nil }},
		{"a belt below 0", lastBelt(-1, 90)},
		{"a belt of 2001", lastBelt(60, 2001)},
		{"no span of a belt", lastBelt(90, 89)},
	}
}

func wrongOrders() []change {
	return []change{
		{"no seconds in a quarter", numbers(0, 1, 40)},
		{"seconds below 0 in a quarter", numbers(-1, 1, 40)},
		{"5001 seconds in a quarter", numbers(5001, 1, 40)},
		{"no box can wait", numbers(150, 0, 40)},
		{"7 boxes can wait", numbers(150, 7, 40)},
		{"a cost below 0", numbers(150, 1, -1)},
		{"a cost of 1001", numbers(150, 1, 1001)},
		{"no orders", func(h *api.ChuteHouse) { *h = simple(span(0, 0), 1) }},
		{"7 orders", func(h *api.ChuteHouse) { *h = largest(); h.Orders = append(h.Orders, order(0)) }},
		{"an order due in the quarter -1", lastOrder(order(-1, 1, 1))},
		{"an order due in the quarter 8", lastOrder(order(8, 1, 1))},
		{"the floor -1", lastOrder(order(0, 1, 1, -1, 0))},
		{"a floor too many", lastOrder(order(0, 1, 1, 2, 0))},
		{"the slip -1", lastOrder(order(0, 1, 1, 1, -1))},
		{"a slip too many", lastOrder(order(0, 1, 1, 1, 2))},
		{"a slip of another floor", lastOrder(order(0, 1, 1, 1, 3))},
		{"a slip too many instead", lastOrder(order(0, 1, 2))},
		{"a slip that no order has", lastOrder(order(0))},
		{"a slip that another order has, too", lastOrder(order(0, 1, 1, 0, 3))},
		{"a slip that another order has, instead", lastOrder(order(0, 0, 3))},
		{"a slip twice in an order", lastOrder(order(0, 1, 1, 1, 1))},
		{"an order less", func(h *api.ChuteHouse) { h.Orders = h.Orders[:3] }},
	}
}

// floorWithout is a floor without slips.
func floorWithout() api.SlipFloor {
	f := sample.Floor()
	f.Slips = nil
	return f
}

func rightHouses() []change {
	return []change{
		{"the example", func(h *api.ChuteHouse) {}},
		{"the largest", func(h *api.ChuteHouse) { *h = largest() }},
		{"the least numbers", numbers(1, 1, 0)},
		{"the greatest numbers", numbers(5000, 6, 1000)},
		{"belts that take no time", lastBelt(0, 0)},
		{"belts of any time", lastBelt(0, 2000)},
		{"slow belts", lastBelt(2000, 2000)},
		{"an order without slips", orders(order(4, 0, 0, 1, 0), order(1, 0, 1, 0, 2), order(4, 0, 3), order(0, 1, 1), order(7))},
		{"all in one order, mixed", orders(order(7, 1, 1, 0, 3, 0, 0, 1, 0, 0, 2, 0, 1))},
		{"5 pickers, some without slips", firstRoster(nil, list(3), list(2, 0, 1), []int{}, nil)},
		{"one floor, without slips", func(h *api.ChuteHouse) { *h = simple(span(0, 0), 1, order(0)) }},
		{"a floor without slips", func(h *api.ChuteHouse) {
			h.Floors, h.Rosters, h.Belts = append(h.Floors, floorWithout()), append(h.Rosters, roster(nil, nil)), append(h.Belts, span(0, 0))
		}},
		{"empty lists", func(h *api.ChuteHouse) {
			*h = simple(span(0, 0), 1, api.ChuteOrder{Slips: [][2]int{}})
			h.Floors[0].Slips, h.Rosters[0][0] = []api.SlipSlip{}, []int{}
		}},
		{"slips that surely are not in time", func(h *api.ChuteHouse) { h.Floors[0].Slips[0].Until = 0 }},
	}
}

// P5.1: which houses are valid, and that this error is the first one.
func TestP5_1Check(t *testing.T) {
	const e = api.ErrChute
	for _, c := range append(wrongFloors(), wrongOrders()...) {
		h := changed(c.do)
		for _, q := range []question{{plan: plan(2, 1, 4, 0)}, {-1, -1, -1, -1, nil}} {
			if a := askAll(h, q); a.check != e || a.errnos != (errnos{e, e, e, e, e, e, e, e}) || !a.areZero() {
				t.Errorf("%s: %v", c.name, a)
			}
		}
	}
	const ask = api.ErrChuteAsk
	for _, c := range rightHouses() {
		h := changed(c.do)
		a := askAll(h, question{0, len(h.Floors[0].Slips), len(h.Orders), 0, nil})
		if a.check != api.OK || a.errnos != (errnos{ask, ask, api.OK, ask, ask, a.errnos.plan, a.errnos.boxes, ask}) || !a.areZero() {
			t.Errorf("%s: %v", c.name, a)
		}
		if a.is || a.errnos.plan == e || a.errnos.boxes == e {
			t.Errorf("%s: %v", c.name, a)
		}
	}
}

// P5.1: when each slip arrives.
func TestP5_1Arrives(t *testing.T) {
	backwards := changed(firstRoster(list(3, 0), nil, list(1, 2)))
	for _, x := range []struct {
		name        string
		h           api.ChuteHouse
		floor, slip int
		want        api.Span
		e           api.Errno
	}{
		{"0 0", example(), 0, 0, span(160, 282), api.OK},
		{"0 1", example(), 0, 1, span(115, 218), api.OK},
		{"0 2", example(), 0, 2, span(45, 78), api.OK},
		{"0 3", example(), 0, 3, span(385, 684), api.OK},
		{"1 0", example(), 1, 0, span(72, 102), api.OK},
		{"1 1", example(), 1, 1, span(112, 142), api.OK},
		{"0 0 behind another slip", backwards, 0, 0, span(385, 684), api.OK},
		{"0 3 as the first one", backwards, 0, 3, span(245, 432), api.OK},
		{"a belt that takes no time", changed(lastBelt(0, 0)), 1, 0, span(12, 12), api.OK},
		{"a belt of any time", changed(lastBelt(0, 2000)), 1, 1, span(52, 2052), api.OK},
		{"the first slip of the largest", largest(), 2, 0, span(2474000, 2474000), api.OK},
		{"the last slip of the largest", largest(), 0, 8, span(22250000, 22250000), api.OK},
		{"the floor -1", example(), -1, 0, api.Span{}, api.ErrChuteAsk},
		{"a floor too many", example(), 2, 0, api.Span{}, api.ErrChuteAsk},
		{"the slip -1", example(), 0, -1, api.Span{}, api.ErrChuteAsk},
		{"a slip too many", example(), 0, 4, api.Span{}, api.ErrChuteAsk},
		{"a slip of another floor", example(), 1, 2, api.Span{}, api.ErrChuteAsk},
		{"no slips", simple(span(0, 0), 1, order(0)), 0, 0, api.Span{}, api.ErrChuteAsk},
	} {
		if got, e := chute.Arrives(x.h, x.floor, x.slip); got != x.want || e != x.e {
			t.Errorf("Arrives of %s: %v, %d, not %v, %d", x.name, got, e, x.want, x.e)
		}
	}
}

// P5.2: in which quarter an order surely is whole.
func TestP5_2Ready(t *testing.T) {
	one := order(7, 0, 0)
	for _, x := range []struct {
		name  string
		h     api.ChuteHouse
		order int
		want  int
		e     api.Errno
	}{
		{"the order 0", example(), 0, 1, api.OK},
		{"the order 1", example(), 1, 1, api.OK},
		{"the order 2", example(), 2, 4, api.OK},
		{"the order 3", example(), 3, 0, api.OK},
		{"whatever it is due", crowded(), 1, 1, api.OK},
		{"the last second of a quarter", simple(span(0, 9), 1, one), 0, 0, api.OK},
		{"the second behind a quarter", simple(span(0, 10), 1, one), 0, 1, api.OK},
		{"the last second of the quarter 7", simple(span(0, 79), 1, one), 0, 7, api.OK},
		{"later than a box can wait", simple(span(0, 80), 1, one), 0, 8, api.OK},
		{"later than the order is due", simple(span(0, 30), 1, order(2, 0, 0)), 0, 3, api.OK},
		{"much later", simple(span(0, 2000), 1, one), 0, 200, api.OK},
		{"one of the largest house", largest(), 2, 4450, api.OK},
		{"an order without slips", simple(span(50, 60), 1, order(0), order(0, 0, 0)), 0, 0, api.OK},
		{"the order -1", example(), -1, 0, api.ErrChuteAsk},
		{"an order too many", example(), 4, 0, api.ErrChuteAsk},
	} {
		if got, e := chute.Ready(x.h, x.order); got != x.want || e != x.e {
			t.Errorf("Ready of %s: %d, %d, not %d, %d", x.name, got, e, x.want, x.e)
		}
	}
}

// P5.2: what is a plan; P5.3, P5.6: nothing else can be asked about.
func TestP5_2IsPlan(t *testing.T) {
	for _, x := range []struct {
		name string
		h    api.ChuteHouse
		plan []int
		want bool
	}{
		{"one box in each quarter", example(), plan(2, 1, 4, 0), true},
		{"two boxes in a quarter", example(), plan(1, 1, 4, 0), false},
		{"an order later than it is due", example(), plan(3, 0, 4, 1), false},
		{"each when it is due at the latest", example(), plan(4, 1, 3, 0), true},
		{"a quarter later than due", example(), plan(5, 1, 4, 0), false},
		{"the quarter -1", example(), plan(-1, 1, 4, 0), false},
		{"a quarter that there never is", largest(), plan(0, 0, 0, 0, 0, 8), false},
		{"nothing", example(), nil, false},
		{"a quarter less", example(), plan(2, 1, 4), false},
		{"a quarter more", example(), plan(2, 1, 4, 0, 3), false},
		{"two boxes, and two can wait", crowded(), plan(1, 0, 1, 0), true},
		{"three boxes, and two can wait", crowded(), plan(0, 0, 1, 0), false},
		{"all in the first quarter", largest(), plan(0, 0, 0, 0, 0, 0), true},
		{"all in the last quarter", largest(), plan(7, 7, 7, 7, 7, 7), true},
		{"boxes without slips wait, too", simple(span(0, 0), 1, order(3), order(3)), plan(3, 3), false},
		{"boxes without slips in two quarters", simple(span(0, 0), 1, order(3), order(3)), plan(3, 2), true},
	} {
		if got, e := chute.IsPlan(x.h, x.plan); got != x.want || e != api.OK {
			t.Errorf("IsPlan: %s: %v, %d", x.name, got, e)
		}
		want := api.OK
		if !x.want {
			want = api.ErrChuteAsk
		}
		a := askAll(x.h, question{plan: x.plan})
		if e := a.errnos; e.alone != want || e.cost != want || e.boxed != want || !a.areZero() {
			t.Errorf("%s: %v, not %d", x.name, a, want)
		}
	}
}

// P5.3: which slips may go by themselves, and what they can cost.
func TestP5_3AloneAndCost(t *testing.T) {
	several := simple(span(15, 25), 3, order(3, 0, 4, 0, 1), order(3, 0, 3, 0, 0), order(3, 0, 2))
	mixed := changed(orders(order(4, 1, 1, 0, 3), order(4, 1, 0, 0, 0), order(4, 0, 2, 0, 1)))
	mixed.Quarter = 70
	for _, x := range []struct {
		name string
		h    api.ChuteHouse
		plan []int
		want [][2]int
		cost api.Span
	}{
		{"the best plan", example(), plan(2, 1, 4, 0), nil, span(0, 0)},
		{"a box too soon", example(), plan(3, 1, 2, 0), pairs(0, 3), span(0, 40)},
		{"the best plan of the crowded house", crowded(), plan(1, 0, 4, 0), pairs(0, 1), span(0, 40)},
		{"a slip that surely is late", changed(numbers(150, 2, 40)), plan(2, 1, 0, 0), pairs(0, 3), span(40, 40)},
		{"two that surely are late", changed(numbers(150, 2, 40)), plan(0, 1, 1, 0), pairs(0, 0, 0, 3), span(80, 80)},
		{"one more that may be late", changed(numbers(150, 3, 40)), plan(0, 0, 1, 0), pairs(0, 0, 0, 1, 0, 3), span(80, 120)},
		{"of several orders, in the order of the slips", several, plan(1, 1, 2), pairs(0, 0, 0, 1, 0, 3, 0, 4), span(0, 28)},
		{"surely late and perhaps", several, plan(0, 1, 2), pairs(0, 0, 0, 1, 0, 3, 0, 4), span(14, 28)},
		{"all surely late", several, plan(0, 0, 0), pairs(0, 0, 0, 1, 0, 2, 0, 3, 0, 4), span(35, 35)},
		{"in the order of the floors", mixed, plan(1, 0, 2), pairs(0, 0, 0, 1, 0, 3, 1, 0, 1, 1), span(120, 200)},
		{"too late by one second", simple(span(0, 10), 1, order(7, 0, 0)), plan(0), pairs(0, 0), span(0, 7)},
		{"in time by one second", simple(span(0, 9), 1, order(7, 0, 0)), plan(0), nil, span(0, 0)},
		{"in time only in the last second", simple(span(9, 19), 1, order(7, 0, 0)), plan(0), pairs(0, 0), span(0, 7)},
		{"late by one second at least", simple(span(10, 19), 1, order(7, 0, 0)), plan(0), pairs(0, 0), span(7, 7)},
		{"much too soon", simple(span(0, 0), 1, order(7, 0, 0)), plan(7), nil, span(0, 0)},
		{"no slips", simple(span(0, 0), 1, order(7)), plan(3), nil, span(0, 0)},
	} {
		if got, e := chute.Alone(x.h, x.plan); !slices.Equal(got, x.want) || e != api.OK {
			t.Errorf("Alone: %s: %v, %d, not %v", x.name, got, e, x.want)
		}
		if got, e := chute.Cost(x.h, x.plan); got != x.cost || e != api.OK {
			t.Errorf("Cost: %s: %v, %d, not %v", x.name, got, e, x.cost)
		}
	}
	all, e := chute.Alone(largest(), plan(7, 7, 7, 7, 7, 7))
	cost, f := chute.Cost(largest(), plan(7, 7, 7, 7, 7, 7))
	if len(all) != 27 || all[0] != [2]int{0, 0} || all[26] != [2]int{2, 8} || e != api.OK || cost != span(27000, 27000) || f != api.OK {
		t.Errorf("of the largest: %v, %d, %v, %d", all, e, cost, f)
	}
	free := changed(numbers(150, 1, 0))
	if got, e := chute.Cost(free, plan(3, 1, 2, 0)); got != span(0, 0) || e != api.OK {
		t.Errorf("Cost of nothing for each: %v, %d", got, e)
	}
}

// P5.4: the plan in which the fewest slips may go by themselves, and the first one of several.
func TestP5_4Plan(t *testing.T) {
	for _, x := range []struct {
		name string
		h    api.ChuteHouse
		want []int
		e    api.Errno
	}{
		{"the example", example(), plan(2, 1, 4, 0), api.OK},
		{"the crowded example", crowded(), plan(1, 0, 4, 0), api.OK},
		{"all are late anyway", largest(), plan(0, 0, 0, 0, 0, 0), api.OK},
		{"no slips", simple(span(0, 0), 2, order(7), order(7), order(7)), plan(0, 0, 1), api.OK},
		{"no plan", simple(span(0, 0), 1, order(0), order(0)), nil, api.ErrNone},
		{"no plan: too many are due too soon", simple(span(0, 0), 2, order(1), order(7), order(1), order(0), order(1), order(1)), nil, api.ErrNone},
		{"just one plan", simple(span(0, 0), 1, order(1), order(0)), plan(1, 0), api.OK},
		{"six boxes in the last quarters but two", simple(span(0, 0), 1, order(7), order(7), order(7), order(7), order(7), order(7)), plan(0, 1, 2, 3, 4, 5), api.OK},
		{"the larger order first", simple(span(15, 19), 1, order(1, 0, 0), order(1, 0, 1, 0, 2)), plan(0, 1), api.OK},
		{"of equal ones the one behind", simple(span(15, 19), 1, order(1, 0, 0), order(1, 0, 1)), plan(0, 1), api.OK},
		{"as soon as it is ready", simple(span(15, 19), 1, order(7, 0, 0)), plan(1), api.OK},
		{"what may be late counts as much as what surely is", simple(span(5, 19), 1, order(1, 0, 0), order(0, 0, 1)), plan(1, 0), api.OK},
		{"it cannot be in time, so as soon as can be", simple(span(80, 80), 1, order(7, 0, 0)), plan(0), api.OK},
	} {
		if got, e := chute.Plan(x.h); !slices.Equal(got, x.want) || e != x.e {
			t.Errorf("Plan: %s: %v, %d, not %v, %d", x.name, got, e, x.want, x.e)
		}
	}
}

// P5.5: how many boxes at once are enough, however many can wait.
func TestP5_5Boxes(t *testing.T) {
	six := []api.ChuteOrder{order(1, 0, 0), order(1, 0, 1), order(1, 0, 2), order(1, 0, 3), order(1, 0, 4), order(1, 0, 5)}
	for _, x := range []struct {
		name string
		h    api.ChuteHouse
		want int
		e    api.Errno
	}{
		{"the example", example(), 1, api.OK},
		{"the example, and more can wait", changed(numbers(150, 6, 40)), 1, api.OK},
		{"the crowded example", crowded(), 0, api.ErrNone},
		{"all late", largest(), 0, api.ErrNone},
		{"no slips, and no plan", simple(span(0, 0), 1, order(0), order(0)), 2, api.OK},
		{"six orders in two quarters", simple(span(0, 5), 1, six...), 3, api.OK},
		{"six orders in one quarter", simple(span(0, 15), 1, six...), 6, api.OK},
		{"six orders, too late", simple(span(0, 20), 6, six...), 0, api.ErrNone},
		{"an order without slips is due sooner", simple(span(0, 15), 1, order(0), order(1, 0, 0)), 1, api.OK},
		{"an order without slips can wait before", simple(span(0, 15), 1, order(1), order(1, 0, 0)), 1, api.OK},
		{"one second too late for the last quarter", simple(span(0, 80), 1, order(7, 0, 0)), 0, api.ErrNone},
		{"in the last second of the last quarter", simple(span(0, 79), 1, order(7, 0, 0)), 1, api.OK},
	} {
		for wait := 1; wait <= api.ChuteOrders; wait++ {
			x.h.Wait = wait
			if got, e := chute.Boxes(x.h); got != x.want || e != x.e {
				t.Errorf("Boxes: %s, if %d can wait: %d, %d, not %d, %d", x.name, wait, got, e, x.want, x.e)
			}
		}
	}
}

// P5.6: how many slips are in the boxes of a quarter, and how many more may be.
func TestP5_6Boxed(t *testing.T) {
	several := simple(span(15, 25), 3, order(3, 0, 4, 0, 1), order(3, 0, 3, 0, 0), order(3, 0, 2))
	for _, x := range []struct {
		name    string
		h       api.ChuteHouse
		plan    []int
		quarter int
		want    [2]int
		e       api.Errno
	}{
		{"the quarter 0", example(), plan(3, 1, 2, 0), 0, [2]int{1, 0}, api.OK},
		{"the quarter 1", example(), plan(3, 1, 2, 0), 1, [2]int{2, 0}, api.OK},
		{"the quarter 2", example(), plan(3, 1, 2, 0), 2, [2]int{0, 1}, api.OK},
		{"the quarter 3", example(), plan(3, 1, 2, 0), 3, [2]int{2, 0}, api.OK},
		{"the quarter 5", example(), plan(3, 1, 2, 0), 5, [2]int{0, 0}, api.OK},
		{"the quarter 7", example(), plan(3, 1, 2, 0), 7, [2]int{0, 0}, api.OK},
		{"the quarter 8", example(), plan(3, 1, 2, 0), 8, [2]int{}, api.ErrChuteAsk},
		{"the quarter -1", example(), plan(3, 1, 2, 0), -1, [2]int{}, api.ErrChuteAsk},
		{"no plan", example(), plan(1, 1, 4, 0), 1, [2]int{}, api.ErrChuteAsk},
		{"two boxes", several, plan(2, 1, 2), 2, [2]int{3, 0}, api.OK},
		{"two boxes too soon", several, plan(1, 1, 2), 1, [2]int{0, 4}, api.OK},
		{"a box that surely is too soon", several, plan(0, 1, 2), 0, [2]int{0, 0}, api.OK},
		{"some of each", crowded(), plan(1, 0, 1, 0), 0, [2]int{2, 1}, api.OK},
		{"the last quarter of all", largest(), plan(7, 7, 7, 7, 7, 7), 7, [2]int{0, 0}, api.OK},
		{"in time by one second", simple(span(9, 9), 1, order(7, 0, 0)), plan(0), 0, [2]int{1, 0}, api.OK},
		{"in time only in the last second", simple(span(9, 10), 1, order(7, 0, 0)), plan(0), 0, [2]int{0, 1}, api.OK},
		{"too late by one second", simple(span(10, 10), 1, order(7, 0, 0)), plan(0), 0, [2]int{0, 0}, api.OK},
	} {
		surely, perhaps, e := chute.Boxed(x.h, x.plan, x.quarter)
		if got := [2]int{surely, perhaps}; got != x.want || e != x.e {
			t.Errorf("Boxed: %s: %v, %d, not %v, %d", x.name, got, e, x.want, x.e)
		}
	}
}
