package slip

import (
	"iter"

	"wishbook/api"
	"wishbook/spans"
)

// pieces is how many pieces of each shelf there are.
type pieces [api.SlipShelves]int

func piecesOf(lines []api.SlipLine) pieces {
	var p pieces
	for _, l := range lines {
		p[l.Shelf] += l.Many
	}
	return p
}

func (p pieces) lines() []api.SlipLine {
	var list []api.SlipLine
	for shelf, many := range p {
		if many > 0 {
			list = append(list, api.SlipLine{Shelf: shelf, Many: many})
		}
	}
	return list[:len(list):len(list)]
}

// without returns the pieces that are left when some are fetched.
func (p pieces) without(fetched pieces) pieces {
	for shelf, many := range fetched {
		p[shelf] -= many
	}
	return p
}

// last returns the last shelf of which there are pieces; false, if there are none.
func (p pieces) last() (int, bool) {
	last, ok := 0, false
	for shelf, many := range p {
		if many > 0 {
			last, ok = shelf, true
		}
	}
	return last, ok
}

// areTours reports whether tours fetch just the pieces of a slip.
func (f floor) areTours(slip int, tours [][]api.SlipLine) bool {
	left := piecesOf(f.Slips[slip].Lines)
	for _, tour := range tours {
		if !f.isTour(tour) {
			return false
		}
		left = left.without(piecesOf(tour))
	}
	return left == pieces{}
}

func (f floor) isTour(lines []api.SlipLine) bool {
	if !f.areLines(lines) {
		return false
	}
	together := 0
	for _, l := range lines {
		together += l.Many
	}
	return together <= f.Carry
}

// loads produces what is carried on the tours of a slip that take the fewest steps.
// Each tour fetches as many of the farthest pieces as can be: of so many tours and one piece more, however they are loaded, one goes as far as the nearest of these pieces.
func (f floor) loads(slip int) iter.Seq[pieces] {
	return func(yield func(pieces) bool) {
		left := piecesOf(f.Slips[slip].Lines)
		for left != (pieces{}) {
			load := f.farthest(left)
			if !yield(load) {
				return
			}
			left = left.without(load)
		}
	}
}

// farthest returns the farthest pieces that can be carried at once. No shelf is nearer than the one before it.
func (f floor) farthest(left pieces) pieces {
	var load pieces
	for range f.Carry {
		shelf, ok := left.last()
		if !ok {
			return load
		}
		left[shelf]--
		load[shelf]++
	}
	return load
}

func (f floor) steps(slip int) int {
	steps := 0
	for load := range f.loads(slip) {
		var fars []int
		for _, l := range load.lines() {
			fars = append(fars, f.Far[l.Shelf])
		}
		steps += 2 * spans.Greatest(0, fars...)
	}
	return steps
}
