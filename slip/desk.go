package slip

import (
	"cmp"
	"iter"
	"slices"

	"wishbook/sets"
)

// desk is a floor whose slips are given to pickers.
type desk struct {
	floor
	order   []int             // all slips, those that must be done sooner first
	seconds []int             // how long each slip takes at most
	shares  map[crew]sets.Set // what one picker of a crew is given so that all is surely in time: nothing, if it cannot be
}

// crew is which slips are given, and to how many pickers.
type crew struct {
	slips   sets.Set
	pickers int
}

func (f floor) desk() desk {
	d := desk{floor: f, order: f.all().Members(), shares: map[crew]sets.Set{}}
	for slip := range f.Slips {
		d.seconds = append(d.seconds, f.takes(slip).High)
	}
	slices.SortStableFunc(d.order, func(one, other int) int {
		return cmp.Compare(f.Slips[one].Until, f.Slips[other].Until)
	})
	return d
}

// given produces all sets of these slips that one picker surely has in time.
// It is enough to try them in the order of the desk: of slips that are in time in any order, one that must be done sooner can change places with the one before it.
func (d desk) given(slips sets.Set, isInTime func(slip, second int) bool) iter.Seq[sets.Set] {
	return func(yield func(sets.Set) bool) {
		var give func(to sets.Set, second int, rest []int) bool
		give = func(to sets.Set, second int, rest []int) bool {
		slips:
			for i, slip := range rest {
				done := second + d.seconds[slip]
				if !slips.Has(slip) || !isInTime(slip, done) {
					continue slips
				}
				if !give(to.With(slip), done, rest[i+1:]) {
					return false
				}
			}
			return to == 0 || yield(to)
		}
		give(0, 0, d.order)
	}
}

// can reports whether a crew surely has its slips in time, and keeps what it found.
func (d desk) can(c crew) bool {
	if c.slips == 0 || c.pickers == 0 {
		return c.slips == 0
	}
	if share, isKnown := d.shares[c]; isKnown {
		return share != 0
	}
	d.shares[c] = 0
	for share := range d.given(c.slips, d.isInTime) {
		if d.can(crew{c.slips.Without(share), c.pickers - 1}) {
			d.shares[c] = share
			return true
		}
	}
	return false
}

// fewest returns how many pickers at least surely have all slips in time; false, if as many as there can be are too few.
func (d desk) fewest() (int, bool) {
	for pickers := limits[ofPickers].Low; pickers <= limits[ofPickers].High; pickers++ {
		if d.can(crew{d.all(), pickers}) {
			return pickers, true
		}
	}
	return 0, false
}

// roster returns the lists of a crew that can have its slips in time.
func (d desk) roster(c crew) [][]int {
	list := make([][]int, 0, c.pickers)
	for c != (crew{}) {
		share := d.shares[c] // nothing, where no slips are left
		list = append(list, d.sorted(share))
		c = crew{c.slips.Without(share), c.pickers - 1}
	}
	return list[:len(list):len(list)]
}

// sorted returns slips in the order of the desk.
func (d desk) sorted(slips sets.Set) []int {
	var list []int
	for _, slip := range d.order {
		if slips.Has(slip) {
			list = append(list, slip)
		}
	}
	return list[:len(list):len(list)]
}
