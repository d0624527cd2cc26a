package chute_test

import (
	"reflect"
	"slices"
	"testing"

	"wishbook/api"
	"wishbook/chute"
	"wishbook/sample"
	"wishbook/slip"
)

// P5.1, P5.2: when slips arrive, when orders are ready, and what is a plan, as the definitions say.
func TestP5_2ArrivalsAndPlans(t *testing.T) {
	are := map[bool]int{}
	eachHouse(t, 400, api.ChuteOrders, 5, func(d sample.Dice, h api.ChuteHouse) {
		arrives := plainArrives(h)
		for pair, want := range arrives {
			if got, e := chute.Arrives(h, pair[0], pair[1]); got != want || e != api.OK {
				t.Fatalf("Arrives of %v, %v: %v, %d, not %v", h, pair, got, e, want)
			}
		}
		for i, o := range h.Orders {
			want := 0
			for slices.ContainsFunc(o.Slips, func(pair [2]int) bool { return plainFate(h, arrives[pair], want) != inBox }) {
				want++
			}
			if got, e := chute.Ready(h, i); got != want || e != api.OK {
				t.Fatalf("Ready of %v, %d: %d, %d, not %d", h, i, got, e, want)
			}
		}
		for range 20 {
			quarters := make([]int, len(h.Orders)+(d(20)-1)/18)
			for i := range quarters {
				quarters[i] = d(api.ChuteQuarters+2) - d(2)
			}
			want := areQuarters(h, quarters)
			are[want]++
			if got, e := chute.IsPlan(h, quarters); got != want || e != api.OK {
				t.Fatalf("IsPlan of %v, %v: %v, %d, not %v", h, quarters, got, e, want)
			}
		}
	})
	if are[true] < 200 || are[false] < 200 {
		t.Errorf("plans, and no plans: %v", are)
	}
}

// P5.3, P5.6: of some plans of each house what becomes of each slip, as the definitions say.
func TestP5_3WhatBecomesOfSlips(t *testing.T) {
	fates := map[fate]int{}
	eachHouse(t, 600, api.ChuteOrders, 5, func(d sample.Dice, h api.ChuteHouse) {
		for range 5 {
			quarters, ok := somePlan(d, h)
			if !ok {
				continue
			}
			told := plainStory(h, quarters)
			for _, f := range told.fates {
				fates[f]++
			}
			if got, e := chute.Alone(h, quarters); !slices.Equal(got, told.alone()) || e != api.OK {
				t.Fatalf("Alone of %v, %v: %v, %d, not %v", h, quarters, got, e, told.alone())
			}
			if got, e := chute.Cost(h, quarters); got != told.cost(h.Cost) || e != api.OK {
				t.Fatalf("Cost of %v, %v: %v, %d, not %v", h, quarters, got, e, told.cost(h.Cost))
			}
			for quarter := range api.ChuteQuarters {
				surely, perhaps, e := chute.Boxed(h, quarters, quarter)
				if got := [2]int{surely, perhaps}; got != told.boxed(quarter) || e != api.OK {
					t.Fatalf("Boxed of %v, %v, %d: %v, %d, not %v", h, quarters, quarter, got, e, told.boxed(quarter))
				}
			}
		}
	})
	if fates[inBox] < 500 || fates[open] < 500 || fates[alone] < 500 {
		t.Errorf("too few slips of some fate: %v", fates)
	}
}

// truly is when each slip arrives if each slip and each belt takes what is drawn of its span.
func truly(d sample.Dice, h api.ChuteHouse) map[[2]int]int {
	arrives := map[[2]int]int{}
	draw := func(s api.Span) int { return s.Low + d(s.High-s.Low+1) }
	for floor, lists := range h.Rosters {
		for _, slips := range lists {
			now := 0
			for _, s := range slips {
				takes, _ := slip.Takes(h.Floors[floor], s)
				now += draw(takes)
				arrives[[2]int{floor, s}] = now + draw(h.Belts[floor])
			}
		}
	}
	return arrives
}

// P5.8: whatever truly happens, each slip arrives between what is told, and is in its box, or goes by itself, as is told.
func TestP5_8EachSlip(t *testing.T) {
	went := map[bool]int{}
	eachHouse(t, 600, api.ChuteOrders, 5, func(d sample.Dice, h api.ChuteHouse) {
		quarters, ok := somePlan(d, h)
		if !ok {
			return
		}
		list, _ := chute.Alone(h, quarters)
		cost, _ := chute.Cost(h, quarters)
		var boxed [api.ChuteQuarters]int
		costs := 0
		for pair, second := range truly(d, h) {
			told, e := chute.Arrives(h, pair[0], pair[1])
			if e != api.OK || second < told.Low || second > told.High {
				t.Fatalf("Arrives of %v, %v: %v, %d, but truly %d", h, pair, told, e, second)
			}
			quarter := quarters[plainOrder(h, pair)]
			isAlone := second >= (quarter+1)*h.Quarter
			went[isAlone]++
			if isAlone {
				costs += h.Cost
			} else {
				boxed[quarter]++
			}
			if isAlone && !slices.Contains(list, pair) {
				t.Fatalf("Alone of %v, %v: %v, but truly %v does, too", h, quarters, list, pair)
			}
		}
		if costs < cost.Low || costs > cost.High {
			t.Fatalf("Cost of %v, %v: %v, but truly %d", h, quarters, cost, costs)
		}
		for quarter, many := range boxed {
			surely, perhaps, _ := chute.Boxed(h, quarters, quarter)
			if many < surely || many > surely+perhaps {
				t.Fatalf("Boxed of %v, %v, %d: %d, %d, but truly %d", h, quarters, quarter, surely, perhaps, many)
			}
		}
	})
	if went[true] < 300 || went[false] < 300 {
		t.Errorf("slips that went by themselves, and others: %v", went)
	}
}

// P5.4, P5.9: no plan has fewer slips that may go by themselves than the one that is told, and none with as few comes before it.
func TestP5_9TheFewestAlone(t *testing.T) {
	many := map[int]int{}
	eachHouse(t, 250, 4, 5, func(d sample.Dice, h api.ChuteHouse) {
		want, fewest := plainBest(h)
		got, e := chute.Plan(h)
		if want == nil {
			many[-1]++
			if len(got) > 0 || e != api.ErrNone {
				t.Fatalf("Plan of %v: %v, %d, but there is none", h, got, e)
			}
			return
		}
		many[fewest]++
		list, _ := chute.Alone(h, got)
		if !slices.Equal(got, want) || e != api.OK || len(list) != fewest {
			t.Fatalf("Plan of %v: %v, %d (%v), not %v", h, got, e, list, want)
		}
	})
	for fewest := -1; fewest <= 4; fewest++ {
		if many[fewest] < 3 {
			t.Errorf("too few houses in which %d slips may go by themselves (-1: without a plan): %v", fewest, many)
		}
	}
}

// P5.5, P5.9: with as many boxes as are told all slips surely are in their boxes, with fewer not.
func TestP5_9AsManyBoxes(t *testing.T) {
	many := map[int]int{}
	eachHouse(t, 250, 5, 2, func(d sample.Dice, h api.ChuteHouse) {
		for i := range h.Orders {
			if d(4) > 0 {
				h.Orders[i].Due = d(2) // so that they are close together
			}
		}
		h.Quarter = min(4*h.Quarter, api.ChuteLong)
		got, e := chute.Boxes(h)
		want := 0
		for wait := api.ChuteOrders; wait >= 1; wait-- {
			h.Wait = wait
			if best, fewest := plainBest(h); best != nil && fewest == 0 {
				want = wait
			}
		}
		many[want]++
		if got != want || (e == api.OK) != (want > 0) || want == 0 && e != api.ErrNone {
			t.Fatalf("Boxes of %v: %d, %d, not %d", h, got, e, want)
		}
	})
	for boxes := range 4 {
		if many[boxes] < 5 {
			t.Errorf("too few houses with %d boxes (0: with none): %v", boxes, many)
		}
	}
}

// P5.9: of houses of any size, in which not all plans can be gone through here.
func TestP5_9ManyOrders(t *testing.T) {
	eachHouse(t, 60, api.ChuteOrders, api.SlipSlips, func(d sample.Dice, h api.ChuteHouse) {
		best, e := chute.Plan(h)
		boxes, f := chute.Boxes(h)
		if e != api.OK {
			if _, ok := somePlan(d, h); ok {
				t.Fatalf("Plan of %v: %d", h, e)
			}
			return
		}
		list, _ := chute.Alone(h, best)
		if isWhole := f == api.OK && boxes <= h.Wait; isWhole != (len(list) == 0) {
			t.Fatalf("of %v: Plan %v, Alone %v, but Boxes %d, %d", h, best, list, boxes, f)
		}
		for range 50 {
			other, ok := somePlan(d, h)
			if !ok {
				break
			}
			more, _ := chute.Alone(h, other)
			if len(more) < len(list) || len(more) == len(list) && slices.Compare(other, best) < 0 {
				t.Fatalf("Plan of %v: %v (%v), but %v (%v)", h, best, list, other, more)
			}
		}
	})
}

// P5.10: an order is surely whole just if its box waits in the quarter in which it is ready, or later.
func TestP5_10ReadyIsWhole(t *testing.T) {
	whole := map[bool]int{}
	eachHouse(t, 400, api.ChuteOrders, 4, func(d sample.Dice, h api.ChuteHouse) {
		quarters, ok := somePlan(d, h)
		if !ok {
			return
		}
		list, _ := chute.Alone(h, quarters)
		areAll := true
		for i, quarter := range quarters {
			ready, _ := chute.Ready(h, i)
			isWhole := !slices.ContainsFunc(list, func(pair [2]int) bool { return slices.Contains(h.Orders[i].Slips, pair) })
			whole[isWhole]++
			areAll = areAll && quarter >= ready
			if isWhole != (quarter >= ready) {
				t.Fatalf("of %v the order %d is ready in the quarter %d, but Alone of %v: %v", h, i, ready, quarters, list)
			}
		}
		if areAll != (len(list) == 0) {
			t.Fatalf("of %v Alone of %v: %v", h, quarters, list)
		}
	})
	if whole[true] < 300 || whole[false] < 300 {
		t.Errorf("orders that are whole, and others: %v", whole)
	}
}

// better makes houses in which something is easier, if they are valid still.
func better(d sample.Dice, h api.ChuteHouse) []api.ChuteHouse {
	var houses []api.ChuteHouse
	for _, do := range []func(g *api.ChuteHouse){
		func(g *api.ChuteHouse) { g.Wait++ },
		func(g *api.ChuteHouse) { g.Orders[d(len(g.Orders))].Due++ },
		func(g *api.ChuteHouse) { g.Belts[d(len(g.Belts))].High-- },
		func(g *api.ChuteHouse) {
			b := &g.Belts[d(len(g.Belts))]
			b.High -= b.Low
			b.Low = 0
		},
	} {
		g := clone(h)
		if do(&g); chute.Check(g) == api.OK {
			houses = append(houses, g)
		}
	}
	return houses
}

// needs is how many slips may go by themselves, and how many boxes are needed: more than there can be, if nothing can be done.
func needs(h api.ChuteHouse) [2]int {
	needed := [2]int{api.ChuteFloors*api.SlipSlips + 1, api.ChuteOrders + 1}
	if best, e := chute.Plan(h); e == api.OK {
		list, _ := chute.Alone(h, best)
		needed[0] = len(list)
	}
	if boxes, e := chute.Boxes(h); e == api.OK {
		needed[1] = boxes
	}
	return needed
}

// P5.11: if something is easier no more slips may go by themselves.
func TestP5_11NoMoreAlone(t *testing.T) {
	changed := 0
	eachHouse(t, 250, 5, 5, func(d sample.Dice, h api.ChuteHouse) {
		before := needs(h)
		for _, g := range better(d, h) {
			now := needs(g)
			if now[0] > before[0] || now[1] > before[1] {
				t.Fatalf("%v needs %v, but %v needs %v", h, before, g, now)
			}
			if now != before {
				changed++
			}
		}
	})
	if changed < 50 {
		t.Errorf("only %d houses were easier", changed)
	}
}

func usual() question { return question{0, 1, 2, 3, sample.Roomy(plan(3, 1, 2, 0), -1)} }

// P5.7: arguments are only read, also where there is free room behind them.
func TestP5_7ArgumentsAreOnlyRead(t *testing.T) {
	h, before, q := clone(example()), example(), usual()
	a := askAll(h, q)
	if a.errnos != (errnos{}) {
		t.Fatalf("an error: %v", a)
	}
	if !reflect.DeepEqual(h, before) || !reflect.DeepEqual(q, usual()) {
		t.Errorf("an argument was changed: %v, %v", h, q)
	}
	if q.plan[:5][4] != -1 || h.Floors[:3][2].Carry != -1 || h.Belts[:3][2] != span(-1, -2) || h.Orders[:5][4].Due != -1 || h.Rosters[:3][2][0][0] != -1 {
		t.Errorf("something was written behind a list: %v, %v", q, h)
	}
	for _, o := range h.Orders {
		if n := len(o.Slips); o.Slips[:n+1][n] != [2]int{-1, -1} {
			t.Errorf("something was written behind the slips %v", o.Slips[:n+1])
		}
	}
	for _, lists := range h.Rosters {
		for _, slips := range lists {
			if n := len(slips); slips[:n+1][n] != -1 {
				t.Errorf("something was written behind the slips %v", slips[:n+1])
			}
		}
	}
}

// P5.7: arguments are not retained, and results are new memory.
func TestP5_7ResultsAreNewMemory(t *testing.T) {
	h, q := clone(example()), usual()
	want, got := askAll(h, q), askAll(h, q)
	clear(got.plan[:cap(got.plan)])
	clear(got.alone[:cap(got.alone)])
	if again := askAll(h, q); !reflect.DeepEqual(again, want) {
		t.Errorf("after results were changed: %v, not %v", again, want)
	}
	held := askAll(h, q)
	h.Belts[0], h.Orders[0].Due, h.Orders[2].Slips[0], h.Rosters[1][0][0], h.Floors[0].Far[0], q.plan[0] = span(0, 0), 0, [2]int{0, 0}, 1, 0, 4
	if !reflect.DeepEqual(held, want) {
		t.Errorf("after the arguments were changed: %v, not %v", held, want)
	}
	if reflect.DeepEqual(askAll(h, q), want) {
		t.Errorf("a changed house answers as before: %v", want)
	}
}

// P1: whatever the arguments are, each function returns, and with an error all else is zero.
func TestP1_AllArguments(t *testing.T) {
	houses := []api.ChuteHouse{{}, example(), largest(), simple(span(0, 0), 1, order(0), order(0))}
	for _, n := range extremes {
		for _, m := range extremes {
			for _, do := range []func(h *api.ChuteHouse){
				lastBelt(n, m), numbers(n, 1, m), numbers(m, n, 40), firstRoster(list(2, 1), list(n, m)),
				lastOrder(order(n, 1, 1, m, m)), lastOrder(order(0, n, m)), lastOrder(order(0, 1, 1, n, m)),
				func(h *api.ChuteHouse) { h.Floors[0].Far[0], h.Floors[1].Carry = n, m },
			} {
				houses = append(houses, changed(do))
			}
		}
	}
	for _, h := range houses {
		for _, n := range extremes {
			for _, q := range []question{{n, 0, n, 0, plan(n, 0, 0, 0)}, {0, n, 1, n, plan(0, 1, n, n)}, {n, n, n, n, plan(n)}, {0, 0, 0, n, plan(2, 1, 4, 0)}} {
				a := askAll(h, q)
				e := a.errnos
				if !a.areZero() || a.check != api.OK && (a.check != api.ErrChute || e.arrives != a.check || e.boxed != a.check) {
					t.Fatalf("of %v, %v: %v", h, q, a)
				}
			}
		}
	}
}

// P2: the same arguments have the same result, whatever was called before.
func TestP2_SameArgumentsSameResult(t *testing.T) {
	want := askAll(example(), usual())
	eachHouse(t, 200, 5, 5, func(d sample.Dice, h api.ChuteHouse) {
		quarters, _ := somePlan(d, h)
		q := question{d(3), d(5), d(5), d(8), quarters}
		one, other := askAll(h, q), askAll(clone(h), q)
		if !one.areZero() || !reflect.DeepEqual(one, other) {
			t.Fatalf("of %v, %v: %v, then %v", h, q, one, other)
		}
		if got := askAll(example(), usual()); !reflect.DeepEqual(got, want) {
			t.Fatalf("of the example after %v: %v, not %v", h, got, want)
		}
	})
}
