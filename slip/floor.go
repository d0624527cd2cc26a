package slip

import (
	"slices"

	"wishbook/api"
	"wishbook/sets"
	"wishbook/spans"
)

// floor is a floor in the calculation.
type floor struct{ api.SlipFloor }

// work is a slip whose pieces are fetched in so many steps.
type work struct {
	floor
	slip, steps int
}

// pace is how quickly all is done: which end of spans is meant.
type pace struct{ end func(api.Span) int }

func (p pace) seconds(w work) int {
	seconds := w.steps * p.end(w.Step)
	for _, l := range w.Slips[w.slip].Lines {
		seconds += l.Many * p.end(w.Pick[l.Shelf])
	}
	return seconds
}

func (w work) least() int { return pace{spans.Low}.seconds(w) }

func (w work) most() int { return pace{spans.High}.seconds(w) }

// The two ends of how long a slip takes.
const (
	atLeast = iota
	atMost
)

func ends() [2]func(work) int {
	return [...]func(work) int{atLeast: work.least, atMost: work.most}
}

func (f floor) takes(slip int) api.Span {
	w := work{f, slip, f.steps(slip)}
	seconds := ends()
	return api.Span{Low: seconds[atLeast](w), High: seconds[atMost](w)}
}

func (f floor) done(roster [][]int) []api.Span {
	list := make([]api.Span, len(f.Slips))
	for _, slips := range roster {
		now := spans.One(0)
		for _, slip := range slips {
			now = spans.Add(now, f.takes(slip))
			list[slip] = now
		}
	}
	return list[:len(list):len(list)]
}

func (f floor) isInTime(slip, second int) bool {
	return second <= f.Slips[slip].Until
}

// with returns the floor with another Until of a slip.
func (f floor) with(slip, until int) floor {
	f.Slips = slices.Clone(f.Slips)
	f.Slips[slip].Until = until
	return f
}

// all returns all slips.
func (f floor) all() sets.Set {
	return sets.Below(len(f.Slips))
}
