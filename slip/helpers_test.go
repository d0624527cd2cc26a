package slip_test

import (
	"math"
	"math/rand"
	"slices"
	"testing"

	"wishbook/api"
	"wishbook/sample"
	"wishbook/slip"
)

var (
	span    = sample.Span
	tour    = sample.Pieces
	written = sample.Slip
	example = sample.Floor
	largest = sample.LargestFloor
	clone   = sample.CopyFloor
)

// The least numbers, and the greatest ones, and what lies around zero.
var extremes = []int{math.MinInt, math.MinInt + 1, -1, 0, 1, math.MaxInt - 1, math.MaxInt}

func tours(list ...[]api.SlipLine) [][]api.SlipLine { return list }

func roster(lists ...[]int) [][]int { return lists }

func list(slips ...int) []int { return slips }

// narrow is a floor whose slips take just so many seconds: one shelf at the desk, and a second for each piece.
func narrow(slips ...api.SlipSlip) api.SlipFloor {
	return api.SlipFloor{Far: []int{0}, Step: span(1, 1), Pick: []api.Span{span(1, 1)}, Carry: 20, Slips: slips}
}

// pieces is how many pieces of each shelf there are.
type pieces [api.SlipShelves]int

func count(lines []api.SlipLine) pieces {
	var p pieces
	for _, l := range lines {
		p[l.Shelf] += l.Many
	}
	return p
}

// plainSteps is the least number of steps of all ways to fetch pieces, whatever is loaded first.
func plainSteps(f api.SlipFloor, left pieces, known map[pieces]int) int {
	if left == (pieces{}) {
		return 0
	}
	if steps, ok := known[left]; ok {
		return steps
	}
	least := math.MaxInt
	eachLoad(f, left, func(load pieces) {
		far, rest := 0, left
		for shelf, many := range load {
			if rest[shelf] -= many; many > 0 {
				far = max(far, f.Far[shelf])
			}
		}
		least = min(least, 2*far+plainSteps(f, rest, known))
	})
	known[left] = least
	return least
}

// eachLoad does something with all that can be carried of some pieces, but not with nothing.
func eachLoad(f api.SlipFloor, left pieces, do func(load pieces)) {
	var load pieces
	var fill func(shelf, carried int)
	fill = func(shelf, carried int) {
		if shelf == len(left) {
			if carried > 0 {
				do(load)
			}
			return
		}
		for many := 0; many <= left[shelf] && carried+many <= f.Carry; many++ {
			load[shelf] = many
			fill(shelf+1, carried+many)
		}
		load[shelf] = 0
	}
	fill(0, 0)
}

// areTours is what the definitions say of tours, word by word.
func areTours(f api.SlipFloor, s api.SlipSlip, list [][]api.SlipLine) bool {
	var all []api.SlipLine
	for _, t := range list {
		if len(t) == 0 {
			return false
		}
		together := 0
		for i, l := range t {
			if l.Shelf < 0 || l.Shelf >= len(f.Far) || l.Many < 1 || i > 0 && l.Shelf <= t[i-1].Shelf {
				return false
			}
			together += l.Many
		}
		if together > f.Carry {
			return false
		}
		all = append(all, t...)
	}
	return count(all) == count(s.Lines)
}

// plainTakes is how long each slip takes.
func plainTakes(f api.SlipFloor) []api.Span {
	var list []api.Span
	for _, s := range f.Slips {
		steps := plainSteps(f, count(s.Lines), map[pieces]int{})
		takes := span(steps*f.Step.Low, steps*f.Step.High)
		for _, l := range s.Lines {
			takes.Low += l.Many * f.Pick[l.Shelf].Low
			takes.High += l.Many * f.Pick[l.Shelf].High
		}
		list = append(list, takes)
	}
	return list
}

// plainDone is when each slip of a roster is done.
func plainDone(takes []api.Span, roster [][]int) []api.Span {
	done := make([]api.Span, len(takes))
	for _, list := range roster {
		var now api.Span
		for _, s := range list {
			now = span(now.Low+takes[s].Low, now.High+takes[s].High)
			done[s] = now
		}
	}
	return done
}

// isRoster reports whether each slip is on just one list, once.
func isRoster(f api.SlipFloor, roster [][]int) bool {
	all := slices.Concat(roster...)
	slices.Sort(all)
	for i, s := range all {
		if i != s {
			return false
		}
	}
	return len(all) == len(f.Slips)
}

// eachRoster does something with all rosters of so many pickers; with each one in every order of its lists.
func eachRoster(f api.SlipFloor, pickers int, do func(roster [][]int)) {
	lists := make([][]int, pickers)
	var give func(s int)
	give = func(s int) {
		if s == len(f.Slips) {
			do(lists)
			return
		}
		for i := range lists {
			before := lists[i]
			for at := range len(before) + 1 {
				lists[i] = slices.Insert(slices.Clone(before), at, s)
				give(s + 1)
			}
			lists[i] = before
		}
	}
	give(0)
}

// late is which slips are not surely in time.
func late(f api.SlipFloor, done []api.Span) []int {
	var slips []int
	for s, d := range done {
		if d.High > f.Slips[s].Until {
			slips = append(slips, s)
		}
	}
	return slips
}

// truth is what all rosters of so many pickers tell: the fewest slips that must be late (the first list of them), and for each slip how soon it can be done if all others are in time (never: the greatest number).
type truth struct {
	late    []int
	soonest []int
}

func plain(f api.SlipFloor, pickers int) truth {
	takes := plainTakes(f)
	var best truth
	for range f.Slips {
		best.soonest = append(best.soonest, math.MaxInt)
	}
	isFirst := true
	eachRoster(f, pickers, func(roster [][]int) {
		done := plainDone(takes, roster)
		slips := late(f, done)
		if isFirst || len(slips) < len(best.late) || len(slips) == len(best.late) && slices.Compare(slips, best.late) < 0 {
			best.late, isFirst = slips, false
		}
		for s, d := range done {
			if len(slips) == 0 || len(slips) == 1 && slips[0] == s {
				best.soonest[s] = min(best.soonest[s], d.High)
			}
		}
	})
	return best
}

// fewest is the fewest pickers who have all in time, and what is told of them; 6, if 5 are too few.
func fewest(f api.SlipFloor) (int, truth) {
	for pickers := 1; pickers <= 5; pickers++ {
		if best := plain(f, pickers); len(best.late) == 0 {
			return pickers, best
		}
	}
	return 6, truth{}
}

// eachFloor does something with the example, and with many random floors of at most so many slips, always the same ones.
func eachFloor(t *testing.T, many, slips int, do func(rnd *rand.Rand, f api.SlipFloor)) {
	t.Helper()
	rnd := rand.New(rand.NewSource(3))
	for range many {
		f := sample.Dice(rnd.Intn).Floor(slips)
		if e := slip.Check(f); e != api.OK {
			t.Fatalf("Check of the valid floor %v: %d", f, e)
		}
		do(rnd, f)
	}
	do(rnd, example())
}
