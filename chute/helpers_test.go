package chute_test

import (
	"math"
	"math/rand"
	"slices"
	"testing"

	"wishbook/api"
	"wishbook/chute"
	"wishbook/sample"
	"wishbook/slip"
)

var span = sample.Span

// The least numbers, and the greatest ones, and what lies around zero.
var extremes = []int{math.MinInt, math.MinInt + 1, -1, 0, 1, math.MaxInt - 1, math.MaxInt}

func plan(quarters ...int) []int { return quarters }

func list(slips ...int) []int { return slips }

func roster(lists ...[]int) [][]int { return lists }

// pairs is some slips: the floor of each one, and its number there.
func pairs(numbers ...int) [][2]int {
	var list [][2]int
	for pair := range slices.Chunk(numbers, 2) {
		list = append(list, [2]int{pair[0], pair[1]})
	}
	return list
}

func order(due int, numbers ...int) api.ChuteOrder {
	return api.ChuteOrder{Due: due, Slips: pairs(numbers...)}
}

// example is the house of the chapter.
func example() api.ChuteHouse {
	near := api.SlipFloor{
		Far:   []int{5, 5},
		Step:  span(1, 1),
		Pick:  []api.Span{span(2, 2), span(3, 3)},
		Carry: 20,
		Slips: []api.SlipSlip{sample.Slip(100, 0, 1), sample.Slip(200, 1, 10)},
	}
	return api.ChuteHouse{
		Floors:  []api.SlipFloor{sample.Floor(), near},
		Rosters: [][][]int{roster(list(2, 1), list(0, 3)), roster(list(0, 1))},
		Belts:   []api.Span{span(20, 30), span(60, 90)},
		Quarter: 150, Wait: 1, Cost: 40,
		Orders: []api.ChuteOrder{order(4, 0, 0, 1, 0), order(1, 0, 1, 0, 2), order(4, 0, 3), order(0, 1, 1)},
	}
}

// crowded is the example with two boxes in a quarter, and the order 1 due sooner.
func crowded() api.ChuteHouse {
	h := example()
	h.Wait, h.Orders[1].Due = 2, 0
	return h
}

// simple is a house of one floor, in which each slip takes no time, and arrives when its belt has brought it; a quarter has 10 seconds.
func simple(belt api.Span, wait int, orders ...api.ChuteOrder) api.ChuteHouse {
	f := api.SlipFloor{Far: []int{0}, Step: span(1, 1), Pick: []api.Span{span(0, 0)}, Carry: 1}
	var all []int
	for _, o := range orders {
		for range o.Slips {
			all = append(all, len(f.Slips))
			f.Slips = append(f.Slips, sample.Slip(0, 0, 1))
		}
	}
	return api.ChuteHouse{Floors: []api.SlipFloor{f}, Rosters: [][][]int{roster(all)}, Belts: []api.Span{belt}, Quarter: 10, Wait: wait, Cost: 7, Orders: orders}
}

// largest is a valid house with as many things as there can be, and the greatest numbers: its last slips arrive in the second 22250000.
func largest() api.ChuteHouse {
	h := api.ChuteHouse{Quarter: api.ChuteLong, Wait: api.ChuteOrders, Cost: api.ChuteCost}
	for range api.ChuteOrders {
		h.Orders = append(h.Orders, order(api.ChuteQuarters-1))
	}
	for floor := range api.ChuteFloors {
		var all []int
		for s := range api.SlipSlips {
			o := &h.Orders[(floor+s)%api.ChuteOrders]
			o.Slips = append(o.Slips, [2]int{floor, s})
			all = append(all, s)
		}
		h.Floors = append(h.Floors, sample.LargestFloor())
		h.Rosters = append(h.Rosters, roster(all, nil, nil, nil, nil))
		h.Belts = append(h.Belts, span(api.ChuteBelt, api.ChuteBelt))
	}
	return h
}

// clone copies a house wholly, and leaves free room behind each list, with what no valid house has.
func clone(h api.ChuteHouse) api.ChuteHouse {
	h.Floors = sample.Roomy(h.Floors, api.SlipFloor{Carry: -1})
	h.Rosters = sample.Roomy(h.Rosters, roster(list(-1)))
	h.Belts = sample.Roomy(h.Belts, span(-1, -2))
	h.Orders = sample.Roomy(h.Orders, order(-1))
	for i := range h.Floors {
		h.Floors[i] = sample.CopyFloor(h.Floors[i])
	}
	for i := range h.Rosters {
		h.Rosters[i] = sample.Roomy(h.Rosters[i], list(-1))
		for k := range h.Rosters[i] {
			h.Rosters[i][k] = sample.Roomy(h.Rosters[i][k], -1)
		}
	}
	for i := range h.Orders {
		h.Orders[i].Slips = sample.Roomy(h.Orders[i].Slips, [2]int{-1, -1})
	}
	return h
}

// someHouse returns some valid house of at most so many orders, and of at most so many slips on each floor. Most of its slips arrive in a quarter in which a box can wait.
func someHouse(d sample.Dice, orders, slips int) api.ChuteHouse {
	h := api.ChuteHouse{Wait: 1 + d(3), Cost: d(50)}
	for range 1 + d(orders) {
		h.Orders = append(h.Orders, order(d(api.ChuteQuarters)))
	}
	for floor := range 1 + d(api.ChuteFloors) {
		f := d.Floor(slips)
		h.Floors = append(h.Floors, f)
		h.Rosters = append(h.Rosters, d.Roster(len(f.Slips)))
		h.Belts = append(h.Belts, d.Span(0, 60))
		for s := range f.Slips {
			o := &h.Orders[d(len(h.Orders))]
			o.Slips = slices.Insert(o.Slips, d(len(o.Slips)+1), [2]int{floor, s})
		}
	}
	last := 0
	for _, arrives := range plainArrives(h) {
		last = max(last, arrives.High)
	}
	h.Quarter = 1 + last/(1+d(api.ChuteQuarters))
	return h
}

// eachHouse does something with the examples, and with many random houses, always the same ones.
func eachHouse(t *testing.T, many, orders, slips int, do func(d sample.Dice, h api.ChuteHouse)) {
	t.Helper()
	rnd := rand.New(rand.NewSource(5))
	do(rnd.Intn, example())
	do(rnd.Intn, crowded())
	for range many {
		h := someHouse(rnd.Intn, orders, slips)
		if e := chute.Check(h); e != api.OK {
			t.Fatalf("Check of the valid house %v: %d", h, e)
		}
		do(rnd.Intn, h)
	}
}

// plainArrives is when each slip arrives.
func plainArrives(h api.ChuteHouse) map[[2]int]api.Span {
	arrives := map[[2]int]api.Span{}
	for floor, lists := range h.Rosters {
		for _, slips := range lists {
			now := h.Belts[floor]
			for _, s := range slips {
				takes, _ := slip.Takes(h.Floors[floor], s)
				now = span(now.Low+takes.Low, now.High+takes.High)
				arrives[[2]int{floor, s}] = now
			}
		}
	}
	return arrives
}

// fate is what can become of a slip.
type fate int

const (
	inBox fate = iota // surely
	open
	alone // surely
)

// plainFate is what becomes of a slip that arrives between such seconds, if its box waits in a quarter.
func plainFate(h api.ChuteHouse, arrives api.Span, quarter int) fate {
	end := (quarter + 1) * h.Quarter
	switch {
	case arrives.High < end:
		return inBox
	case arrives.Low < end:
		return open
	}
	return alone
}

// story is what can become of all slips in a plan, in the order of the floors, then of the slips.
type story struct {
	slips    [][2]int
	quarters []int // that of the box of each slip
	fates    []fate
}

func plainStory(h api.ChuteHouse, plan []int) story {
	var told story
	arrives := plainArrives(h)
	for floor, f := range h.Floors {
		for s := range f.Slips {
			pair := [2]int{floor, s}
			quarter := plan[plainOrder(h, pair)]
			told.slips = append(told.slips, pair)
			told.quarters = append(told.quarters, quarter)
			told.fates = append(told.fates, plainFate(h, arrives[pair], quarter))
		}
	}
	return told
}

// plainOrder is the order of a slip.
func plainOrder(h api.ChuteHouse, pair [2]int) int {
	for i, o := range h.Orders {
		if slices.Contains(o.Slips, pair) {
			return i
		}
	}
	return -1
}

// alone is which slips may go by themselves.
func (s story) alone() [][2]int {
	var list [][2]int
	for i, f := range s.fates {
		if f != inBox {
			list = append(list, s.slips[i])
		}
	}
	return list
}

// cost is what the slips can cost that go by themselves.
func (s story) cost(each int) api.Span {
	var cost api.Span
	for _, f := range s.fates {
		if f == alone {
			cost.Low += each
		}
		if f != inBox {
			cost.High += each
		}
	}
	return cost
}

// boxed is how many slips surely are in a box that waits in a quarter, and how many more may be.
func (s story) boxed(quarter int) [2]int {
	var many [2]int
	for i, f := range s.fates {
		if s.quarters[i] == quarter && f != alone {
			many[f]++
		}
	}
	return many
}

// areQuarters is what the definition says of a plan, word by word.
func areQuarters(h api.ChuteHouse, plan []int) bool {
	if len(plan) != len(h.Orders) {
		return false
	}
	for i, quarter := range plan {
		same := 0
		for _, other := range plan {
			if other == quarter {
				same++
			}
		}
		if quarter < 0 || quarter > h.Orders[i].Due || same > h.Wait {
			return false
		}
	}
	return true
}

// eachPlan does something with all plans of a house, the first one first.
func eachPlan(h api.ChuteHouse, do func(plan []int)) {
	all := 1
	for range h.Orders {
		all *= api.ChuteQuarters
	}
	for n := range all {
		plan := make([]int, len(h.Orders))
		for i := range slices.Backward(plan) {
			plan[i], n = n%api.ChuteQuarters, n/api.ChuteQuarters
		}
		if areQuarters(h, plan) {
			do(plan)
		}
	}
}

// plainBest is the first plan in which the fewest slips may go by themselves, and how many they are; nil, if there is no plan.
func plainBest(h api.ChuteHouse) (best []int, fewest int) {
	fewest = math.MaxInt
	arrives := plainArrives(h)
	eachPlan(h, func(plan []int) {
		many := 0
		for i, o := range h.Orders {
			for _, pair := range o.Slips {
				if plainFate(h, arrives[pair], plan[i]) != inBox {
					many++
				}
			}
		}
		if many < fewest {
			best, fewest = plan, many
		}
	})
	return best, fewest
}

// somePlan returns some plan, if it finds one.
func somePlan(d sample.Dice, h api.ChuteHouse) ([]int, bool) {
	for range 40 {
		var plan []int
		for _, o := range h.Orders {
			plan = append(plan, d(o.Due+1))
		}
		if areQuarters(h, plan) {
			return plan, true
		}
	}
	return nil, false
}
